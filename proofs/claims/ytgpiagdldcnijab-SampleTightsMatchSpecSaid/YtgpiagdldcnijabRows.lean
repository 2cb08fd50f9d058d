/-
  No cell of these rows narrows 'for every input' (looked for: loops, veiled, ifaces, maps, wideKeys, modest, calm, conditions, laid).
  DERIVED. THE GIVEN ROWS OF THIS SEAT. 10 by the template 'for every input the law returns true; each argument reads behind the call as it read before'; 0 by the template 'total and deterministic' (their statements: YtgpiagdldcnijabTotals.lean).
  GIVEN WITH THE SEED: the statements are not yours to turn. If you find one false, say at which input.
  Laid BY PROGRAM, IN A SANDBOX (cutbox-rows.mjs): the forced cells as the released guide's own fill.sh prints them over the translation 78b13cb873c5398f… (all of the seat's roots in one cut). By AI agents, Wed Nov 11 2026. No macro, syntax, notation, axiom, sorry.
-/
import Derived.Test.YtgpiagdldcnijabChecked
import GoSem.Claim
import GoSem.ClaimJoined
import GoSem.ClaimMapViews
import Derived.JoinedTies
import Derived.KernelRfl
namespace Go.Proofs.Ytgpiagdldcnijab
/- THE CELL 'sum', in the pinned program and in every row, IS THE sha256 OF THE DUMP (.gsa) THAT YtgpiagdldcnijabProg.lean LOADS. Nothing in Lean hashes anything: it is a label: what it is worth is what the hold of that sum in a sandbox is worth. -/
noncomputable def Try.pinned : Pinned := { name := "ytgpiagdldcnijab", sum := "78b13cb873c5398f3b357c416bef53a50c86e80551301f6d477979802db44516", checked := Try.checked }
namespace Rows
def none {H : Type} : Left H := { results := [], args := [] }

/-- 'headendlaw1.TickSpansAddUp': WHATEVER THE INPUT: true; the input reads as it did. -/
def tickSpansAddUpSpec : ChangeSpec := { name := "tickSpansAddUp", fn := fun _ => fun
  | [d1, d2] => { results := [.lit (.bool true)], args := [d1, d2] }
  | _ => none }
def tickSpansAddUpRow : OpenClaim := { program := "ytgpiagdldcnijab", sum := "78b13cb873c5398f3b357c416bef53a50c86e80551301f6d477979802db44516", func := "headend/headendlaw1.TickSpansAddUp", spec := "tickSpansAddUp", unfollowed := true, recurses := true, named := ["math/bits.divideError", "math/bits.overflowError"], apart := false }
def TickSpansAddUpSaid : Prop := tickSpansAddUpRow.holds Try.pinned (OpenSpec.ofChange tickSpansAddUpSpec)

/-- ITS FALSE NEIGHBOUR: 'it returns false'. Refute it at one input. -/
def tickSpansAddUpWrong : ChangeSpec := { name := "tickSpansAddUp", fn := fun _ => fun
  | [d1, d2] => { results := [.lit (.bool false)], args := [d1, d2] }
  | _ => none }
def TickSpansAddUpWrongFalsely : Prop := tickSpansAddUpRow.holds Try.pinned (OpenSpec.ofChange tickSpansAddUpWrong)

/-- 'headendlaw1.TickSpansMatchSpec': WHATEVER THE INPUT: true; the input reads as it did. -/
def tickSpansMatchSpecSpec : ChangeSpec := { name := "tickSpansMatchSpec", fn := fun _ => fun
  | [d1, d2] => { results := [.lit (.bool true)], args := [d1, d2] }
  | _ => none }
def tickSpansMatchSpecRow : OpenClaim := { program := "ytgpiagdldcnijab", sum := "78b13cb873c5398f3b357c416bef53a50c86e80551301f6d477979802db44516", func := "headend/headendlaw1.TickSpansMatchSpec", spec := "tickSpansMatchSpec", unfollowed := true, recurses := true, named := ["math/bits.divideError", "math/bits.overflowError"], apart := false }
def TickSpansMatchSpecSaid : Prop := tickSpansMatchSpecRow.holds Try.pinned (OpenSpec.ofChange tickSpansMatchSpecSpec)

/-- ITS FALSE NEIGHBOUR: 'it returns false'. Refute it at one input. -/
def tickSpansMatchSpecWrong : ChangeSpec := { name := "tickSpansMatchSpec", fn := fun _ => fun
  | [d1, d2] => { results := [.lit (.bool false)], args := [d1, d2] }
  | _ => none }
def TickSpansMatchSpecWrongFalsely : Prop := tickSpansMatchSpecRow.holds Try.pinned (OpenSpec.ofChange tickSpansMatchSpecWrong)

/-- 'headendlaw3.SampleOrdersMatchSpec': WHATEVER THE INPUT: true; the input reads as it did. -/
def sampleOrdersMatchSpecSpec : ChangeSpec := { name := "sampleOrdersMatchSpec", fn := fun _ => fun
  | [d] => { results := [.lit (.bool true)], args := [d] }
  | _ => none }
def sampleOrdersMatchSpecRow : OpenClaim := { program := "ytgpiagdldcnijab", sum := "78b13cb873c5398f3b357c416bef53a50c86e80551301f6d477979802db44516", func := "headend/headendlaw3.SampleOrdersMatchSpec", spec := "sampleOrdersMatchSpec", unfollowed := true, recurses := true, apart := false }
def SampleOrdersMatchSpecSaid : Prop := sampleOrdersMatchSpecRow.holds Try.pinned (OpenSpec.ofChange sampleOrdersMatchSpecSpec)

/-- ITS FALSE NEIGHBOUR: 'it returns false'. Refute it at one input. -/
def sampleOrdersMatchSpecWrong : ChangeSpec := { name := "sampleOrdersMatchSpec", fn := fun _ => fun
  | [d] => { results := [.lit (.bool false)], args := [d] }
  | _ => none }
def SampleOrdersMatchSpecWrongFalsely : Prop := sampleOrdersMatchSpecRow.holds Try.pinned (OpenSpec.ofChange sampleOrdersMatchSpecWrong)

/-- 'headendlaw3.SampleGroupsMatchSpec': WHATEVER THE INPUT: true; the input reads as it did. -/
def sampleGroupsMatchSpecSpec : ChangeSpec := { name := "sampleGroupsMatchSpec", fn := fun _ => fun
  | [d] => { results := [.lit (.bool true)], args := [d] }
  | _ => none }
def sampleGroupsMatchSpecRow : OpenClaim := { program := "ytgpiagdldcnijab", sum := "78b13cb873c5398f3b357c416bef53a50c86e80551301f6d477979802db44516", func := "headend/headendlaw3.SampleGroupsMatchSpec", spec := "sampleGroupsMatchSpec", unfollowed := true, recurses := true, apart := false }
def SampleGroupsMatchSpecSaid : Prop := sampleGroupsMatchSpecRow.holds Try.pinned (OpenSpec.ofChange sampleGroupsMatchSpecSpec)

/-- ITS FALSE NEIGHBOUR: 'it returns false'. Refute it at one input. -/
def sampleGroupsMatchSpecWrong : ChangeSpec := { name := "sampleGroupsMatchSpec", fn := fun _ => fun
  | [d] => { results := [.lit (.bool false)], args := [d] }
  | _ => none }
def SampleGroupsMatchSpecWrongFalsely : Prop := sampleGroupsMatchSpecRow.holds Try.pinned (OpenSpec.ofChange sampleGroupsMatchSpecWrong)

/-- 'headendlaw3.SampleReordersMatchSpec': WHATEVER THE INPUT: true; the input reads as it did. -/
def sampleReordersMatchSpecSpec : ChangeSpec := { name := "sampleReordersMatchSpec", fn := fun _ => fun
  | [d1, d2, d3, d4] => { results := [.lit (.bool true)], args := [d1, d2, d3, d4] }
  | _ => none }
def sampleReordersMatchSpecRow : OpenClaim := { program := "ytgpiagdldcnijab", sum := "78b13cb873c5398f3b357c416bef53a50c86e80551301f6d477979802db44516", func := "headend/headendlaw3.SampleReordersMatchSpec", spec := "sampleReordersMatchSpec", unfollowed := true, recurses := true, apart := false }
def SampleReordersMatchSpecSaid : Prop := sampleReordersMatchSpecRow.holds Try.pinned (OpenSpec.ofChange sampleReordersMatchSpecSpec)

/-- ITS FALSE NEIGHBOUR: 'it returns false'. Refute it at one input. -/
def sampleReordersMatchSpecWrong : ChangeSpec := { name := "sampleReordersMatchSpec", fn := fun _ => fun
  | [d1, d2, d3, d4] => { results := [.lit (.bool false)], args := [d1, d2, d3, d4] }
  | _ => none }
def SampleReordersMatchSpecWrongFalsely : Prop := sampleReordersMatchSpecRow.holds Try.pinned (OpenSpec.ofChange sampleReordersMatchSpecWrong)

/-- 'headendlaw3.SampleReordersPresent': WHATEVER THE INPUT: true; the input reads as it did. -/
def sampleReordersPresentSpec : ChangeSpec := { name := "sampleReordersPresent", fn := fun _ => fun
  | [d1, d2, d3, d4] => { results := [.lit (.bool true)], args := [d1, d2, d3, d4] }
  | _ => none }
def sampleReordersPresentRow : OpenClaim := { program := "ytgpiagdldcnijab", sum := "78b13cb873c5398f3b357c416bef53a50c86e80551301f6d477979802db44516", func := "headend/headendlaw3.SampleReordersPresent", spec := "sampleReordersPresent", unfollowed := true, recurses := true, apart := false }
def SampleReordersPresentSaid : Prop := sampleReordersPresentRow.holds Try.pinned (OpenSpec.ofChange sampleReordersPresentSpec)

/-- ITS FALSE NEIGHBOUR: 'it returns false'. Refute it at one input. -/
def sampleReordersPresentWrong : ChangeSpec := { name := "sampleReordersPresent", fn := fun _ => fun
  | [d1, d2, d3, d4] => { results := [.lit (.bool false)], args := [d1, d2, d3, d4] }
  | _ => none }
def SampleReordersPresentWrongFalsely : Prop := sampleReordersPresentRow.holds Try.pinned (OpenSpec.ofChange sampleReordersPresentWrong)

/-- 'headendlaw3.SampleTightsMatchSpec': WHATEVER THE INPUT: true; the input reads as it did. -/
def sampleTightsMatchSpecSpec : ChangeSpec := { name := "sampleTightsMatchSpec", fn := fun _ => fun
  | [d1, d2, d3] => { results := [.lit (.bool true)], args := [d1, d2, d3] }
  | _ => none }
def sampleTightsMatchSpecRow : OpenClaim := { program := "ytgpiagdldcnijab", sum := "78b13cb873c5398f3b357c416bef53a50c86e80551301f6d477979802db44516", func := "headend/headendlaw3.SampleTightsMatchSpec", spec := "sampleTightsMatchSpec", unfollowed := true, recurses := true, apart := false }
def SampleTightsMatchSpecSaid : Prop := sampleTightsMatchSpecRow.holds Try.pinned (OpenSpec.ofChange sampleTightsMatchSpecSpec)

/-- ITS FALSE NEIGHBOUR: 'it returns false'. Refute it at one input. -/
def sampleTightsMatchSpecWrong : ChangeSpec := { name := "sampleTightsMatchSpec", fn := fun _ => fun
  | [d1, d2, d3] => { results := [.lit (.bool false)], args := [d1, d2, d3] }
  | _ => none }
def SampleTightsMatchSpecWrongFalsely : Prop := sampleTightsMatchSpecRow.holds Try.pinned (OpenSpec.ofChange sampleTightsMatchSpecWrong)

/-- 'headendlaw2.BoxFragmentsMatchSpec': WHATEVER THE INPUT: true; the input reads as it did. -/
def boxFragmentsMatchSpecSpec : ChangeSpec := { name := "boxFragmentsMatchSpec", fn := fun _ => fun
  | [d1, d2] => { results := [.lit (.bool true)], args := [d1, d2] }
  | _ => none }
def boxFragmentsMatchSpecRow : OpenClaim := { program := "ytgpiagdldcnijab", sum := "78b13cb873c5398f3b357c416bef53a50c86e80551301f6d477979802db44516", func := "headend/headendlaw2.BoxFragmentsMatchSpec", spec := "boxFragmentsMatchSpec", recurses := true, apart := false }
def BoxFragmentsMatchSpecSaid : Prop := boxFragmentsMatchSpecRow.holds Try.pinned (OpenSpec.ofChange boxFragmentsMatchSpecSpec)

/-- ITS FALSE NEIGHBOUR: 'it returns false'. Refute it at one input. -/
def boxFragmentsMatchSpecWrong : ChangeSpec := { name := "boxFragmentsMatchSpec", fn := fun _ => fun
  | [d1, d2] => { results := [.lit (.bool false)], args := [d1, d2] }
  | _ => none }
def BoxFragmentsMatchSpecWrongFalsely : Prop := boxFragmentsMatchSpecRow.holds Try.pinned (OpenSpec.ofChange boxFragmentsMatchSpecWrong)

/-- 'headendlaw2.BoxFragmentsComeBack': WHATEVER THE INPUT: true; the input reads as it did. -/
def boxFragmentsComeBackSpec : ChangeSpec := { name := "boxFragmentsComeBack", fn := fun _ => fun
  | [d1, d2] => { results := [.lit (.bool true)], args := [d1, d2] }
  | _ => none }
def boxFragmentsComeBackRow : OpenClaim := { program := "ytgpiagdldcnijab", sum := "78b13cb873c5398f3b357c416bef53a50c86e80551301f6d477979802db44516", func := "headend/headendlaw2.BoxFragmentsComeBack", spec := "boxFragmentsComeBack", recurses := true, apart := false }
def BoxFragmentsComeBackSaid : Prop := boxFragmentsComeBackRow.holds Try.pinned (OpenSpec.ofChange boxFragmentsComeBackSpec)

/-- ITS FALSE NEIGHBOUR: 'it returns false'. Refute it at one input. -/
def boxFragmentsComeBackWrong : ChangeSpec := { name := "boxFragmentsComeBack", fn := fun _ => fun
  | [d1, d2] => { results := [.lit (.bool false)], args := [d1, d2] }
  | _ => none }
def BoxFragmentsComeBackWrongFalsely : Prop := boxFragmentsComeBackRow.holds Try.pinned (OpenSpec.ofChange boxFragmentsComeBackWrong)

/-- 'headendtop.TopDelaysFollowSamples': WHATEVER THE INPUT: true; the input reads as it did. -/
def topDelaysFollowSamplesSpec : ChangeSpec := { name := "topDelaysFollowSamples", fn := fun _ => fun
  | [d1, d2, d3] => { results := [.lit (.bool true)], args := [d1, d2, d3] }
  | _ => none }
def topDelaysFollowSamplesRow : OpenClaim := { program := "ytgpiagdldcnijab", sum := "78b13cb873c5398f3b357c416bef53a50c86e80551301f6d477979802db44516", func := "headend/headendtop.TopDelaysFollowSamples", spec := "topDelaysFollowSamples", unfollowed := true, recurses := true, named := ["math/bits.divideError", "math/bits.overflowError"], apart := false }
def TopDelaysFollowSamplesSaid : Prop := topDelaysFollowSamplesRow.holds Try.pinned (OpenSpec.ofChange topDelaysFollowSamplesSpec)

/-- ITS FALSE NEIGHBOUR: 'it returns false'. Refute it at one input. -/
def topDelaysFollowSamplesWrong : ChangeSpec := { name := "topDelaysFollowSamples", fn := fun _ => fun
  | [d1, d2, d3] => { results := [.lit (.bool false)], args := [d1, d2, d3] }
  | _ => none }
def TopDelaysFollowSamplesWrongFalsely : Prop := topDelaysFollowSamplesRow.holds Try.pinned (OpenSpec.ofChange topDelaysFollowSamplesWrong)

/- THE SECOND FORM. 'bulk': how many values and letters a reading holds, each counted each time it is reached (what is shared counts as often as it is met; a slice's spare places count too). A statement '..UptoSaid' is the law's where the arguments, and the package variables that the reading takes, are together of bulk at most 1048576: NARROWER than '..Said'. Prove '..Said' where nothing that the law and all that it calls make is longer than what came in: it says more and counts as full. Else prove '..UptoSaid'. A law counts once. -/
mutual
def uptoBulk {H : Type} : DataW H → Nat
  | .lit (.string bytes) => bytes.length + 1
  | .lit _ => 1
  | .nil => 1
  | .ptr d => uptoBulk d + 1
  | .slice elems spare => uptoBulkAll elems + uptoBulkAll spare + 1
  | .agg parts => uptoBulkAll parts + 1
  | .iface _ d => uptoBulk d + 1
  | .map entries => uptoBulkEntries entries + 1
  | .held _ => 1
def uptoBulkAll {H : Type} : List (DataW H) → Nat
  | [] => 0
  | d :: r => uptoBulk d + uptoBulkAll r
def uptoBulkEntries {H : Type} : List (Lit × DataW H) → Nat
  | [] => 0
  | x :: r => uptoBulkEntry x + uptoBulkEntries r
def uptoBulkEntry {H : Type} : Lit × DataW H → Nat
  | (.string bytes, d) => bytes.length + uptoBulk d + 1
  | (_, d) => uptoBulk d + 1
 end
def uptoSmall : (H : Type) → List (DataW H) → Bool := fun _ ds => decide (uptoBulkAll ds ≤ 1048576)
def OpenSpec.upto (s : _root_.Go.ChangeSpec) : _root_.Go.OpenSpec := { _root_.Go.OpenSpec.ofChange s with cond := some uptoSmall }

/-- 'headendlaw1.TickSpansAddUp', WHERE WHAT IT READS IS OF BULK AT MOST 1048576: true; the input reads as it did. -/
def tickSpansAddUpUptoRow : OpenClaim := { program := "ytgpiagdldcnijab", sum := "78b13cb873c5398f3b357c416bef53a50c86e80551301f6d477979802db44516", func := "headend/headendlaw1.TickSpansAddUp", spec := "tickSpansAddUp", unfollowed := true, recurses := true, named := ["math/bits.divideError", "math/bits.overflowError"], apart := false, narrowed := true }
def TickSpansAddUpUptoSaid : Prop := tickSpansAddUpUptoRow.holds Try.pinned (OpenSpec.upto tickSpansAddUpSpec)

/-- 'headendlaw1.TickSpansMatchSpec', WHERE WHAT IT READS IS OF BULK AT MOST 1048576: true; the input reads as it did. -/
def tickSpansMatchSpecUptoRow : OpenClaim := { program := "ytgpiagdldcnijab", sum := "78b13cb873c5398f3b357c416bef53a50c86e80551301f6d477979802db44516", func := "headend/headendlaw1.TickSpansMatchSpec", spec := "tickSpansMatchSpec", unfollowed := true, recurses := true, named := ["math/bits.divideError", "math/bits.overflowError"], apart := false, narrowed := true }
def TickSpansMatchSpecUptoSaid : Prop := tickSpansMatchSpecUptoRow.holds Try.pinned (OpenSpec.upto tickSpansMatchSpecSpec)

/-- 'headendlaw3.SampleOrdersMatchSpec', WHERE WHAT IT READS IS OF BULK AT MOST 1048576: true; the input reads as it did. -/
def sampleOrdersMatchSpecUptoRow : OpenClaim := { program := "ytgpiagdldcnijab", sum := "78b13cb873c5398f3b357c416bef53a50c86e80551301f6d477979802db44516", func := "headend/headendlaw3.SampleOrdersMatchSpec", spec := "sampleOrdersMatchSpec", unfollowed := true, recurses := true, apart := false, narrowed := true }
def SampleOrdersMatchSpecUptoSaid : Prop := sampleOrdersMatchSpecUptoRow.holds Try.pinned (OpenSpec.upto sampleOrdersMatchSpecSpec)

/-- 'headendlaw3.SampleGroupsMatchSpec', WHERE WHAT IT READS IS OF BULK AT MOST 1048576: true; the input reads as it did. -/
def sampleGroupsMatchSpecUptoRow : OpenClaim := { program := "ytgpiagdldcnijab", sum := "78b13cb873c5398f3b357c416bef53a50c86e80551301f6d477979802db44516", func := "headend/headendlaw3.SampleGroupsMatchSpec", spec := "sampleGroupsMatchSpec", unfollowed := true, recurses := true, apart := false, narrowed := true }
def SampleGroupsMatchSpecUptoSaid : Prop := sampleGroupsMatchSpecUptoRow.holds Try.pinned (OpenSpec.upto sampleGroupsMatchSpecSpec)

/-- 'headendlaw3.SampleReordersMatchSpec', WHERE WHAT IT READS IS OF BULK AT MOST 1048576: true; the input reads as it did. -/
def sampleReordersMatchSpecUptoRow : OpenClaim := { program := "ytgpiagdldcnijab", sum := "78b13cb873c5398f3b357c416bef53a50c86e80551301f6d477979802db44516", func := "headend/headendlaw3.SampleReordersMatchSpec", spec := "sampleReordersMatchSpec", unfollowed := true, recurses := true, apart := false, narrowed := true }
def SampleReordersMatchSpecUptoSaid : Prop := sampleReordersMatchSpecUptoRow.holds Try.pinned (OpenSpec.upto sampleReordersMatchSpecSpec)

/-- 'headendlaw3.SampleReordersPresent', WHERE WHAT IT READS IS OF BULK AT MOST 1048576: true; the input reads as it did. -/
def sampleReordersPresentUptoRow : OpenClaim := { program := "ytgpiagdldcnijab", sum := "78b13cb873c5398f3b357c416bef53a50c86e80551301f6d477979802db44516", func := "headend/headendlaw3.SampleReordersPresent", spec := "sampleReordersPresent", unfollowed := true, recurses := true, apart := false, narrowed := true }
def SampleReordersPresentUptoSaid : Prop := sampleReordersPresentUptoRow.holds Try.pinned (OpenSpec.upto sampleReordersPresentSpec)

/-- 'headendlaw3.SampleTightsMatchSpec', WHERE WHAT IT READS IS OF BULK AT MOST 1048576: true; the input reads as it did. -/
def sampleTightsMatchSpecUptoRow : OpenClaim := { program := "ytgpiagdldcnijab", sum := "78b13cb873c5398f3b357c416bef53a50c86e80551301f6d477979802db44516", func := "headend/headendlaw3.SampleTightsMatchSpec", spec := "sampleTightsMatchSpec", unfollowed := true, recurses := true, apart := false, narrowed := true }
def SampleTightsMatchSpecUptoSaid : Prop := sampleTightsMatchSpecUptoRow.holds Try.pinned (OpenSpec.upto sampleTightsMatchSpecSpec)

/-- 'headendlaw2.BoxFragmentsMatchSpec', WHERE WHAT IT READS IS OF BULK AT MOST 1048576: true; the input reads as it did. -/
def boxFragmentsMatchSpecUptoRow : OpenClaim := { program := "ytgpiagdldcnijab", sum := "78b13cb873c5398f3b357c416bef53a50c86e80551301f6d477979802db44516", func := "headend/headendlaw2.BoxFragmentsMatchSpec", spec := "boxFragmentsMatchSpec", recurses := true, apart := false, narrowed := true }
def BoxFragmentsMatchSpecUptoSaid : Prop := boxFragmentsMatchSpecUptoRow.holds Try.pinned (OpenSpec.upto boxFragmentsMatchSpecSpec)

/-- 'headendlaw2.BoxFragmentsComeBack', WHERE WHAT IT READS IS OF BULK AT MOST 1048576: true; the input reads as it did. -/
def boxFragmentsComeBackUptoRow : OpenClaim := { program := "ytgpiagdldcnijab", sum := "78b13cb873c5398f3b357c416bef53a50c86e80551301f6d477979802db44516", func := "headend/headendlaw2.BoxFragmentsComeBack", spec := "boxFragmentsComeBack", recurses := true, apart := false, narrowed := true }
def BoxFragmentsComeBackUptoSaid : Prop := boxFragmentsComeBackUptoRow.holds Try.pinned (OpenSpec.upto boxFragmentsComeBackSpec)

/-- 'headendtop.TopDelaysFollowSamples', WHERE WHAT IT READS IS OF BULK AT MOST 1048576: true; the input reads as it did. -/
def topDelaysFollowSamplesUptoRow : OpenClaim := { program := "ytgpiagdldcnijab", sum := "78b13cb873c5398f3b357c416bef53a50c86e80551301f6d477979802db44516", func := "headend/headendtop.TopDelaysFollowSamples", spec := "topDelaysFollowSamples", unfollowed := true, recurses := true, named := ["math/bits.divideError", "math/bits.overflowError"], apart := false, narrowed := true }
def TopDelaysFollowSamplesUptoSaid : Prop := topDelaysFollowSamplesUptoRow.holds Try.pinned (OpenSpec.upto topDelaysFollowSamplesSpec)

end Rows
end Go.Proofs.Ytgpiagdldcnijab
