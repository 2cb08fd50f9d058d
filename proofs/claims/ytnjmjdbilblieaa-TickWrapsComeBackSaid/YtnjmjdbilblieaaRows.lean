/-
  No cell of these rows narrows 'for every input' (looked for: loops, veiled, ifaces, maps, wideKeys, modest, calm, conditions, laid).
  DERIVED. THE GIVEN ROWS OF THIS SEAT. 6 by the template 'for every input the law returns true; each argument reads behind the call as it read before'; 0 by the template 'total and deterministic' (their statements: YtnjmjdbilblieaaTotals.lean).
  GIVEN WITH THE SEED: the statements are not yours to turn. If you find one false, say at which input.
  Laid BY PROGRAM, IN A SANDBOX (cutbox-rows.mjs): the forced cells as the released guide's own fill.sh prints them over the translation 2908a95a28778f03… (all of the seat's roots in one cut). By AI agents, Wed Nov 11 2026. No macro, syntax, notation, axiom, sorry.
-/
import Derived.Test.YtnjmjdbilblieaaChecked
import GoSem.Claim
import GoSem.ClaimJoined
import GoSem.ClaimMapViews
import Derived.JoinedTies
import Derived.KernelRfl
namespace Go.Proofs.Ytnjmjdbilblieaa
/- THE CELL 'sum', in the pinned program and in every row, IS THE sha256 OF THE DUMP (.gsa) THAT YtnjmjdbilblieaaProg.lean LOADS. Nothing in Lean hashes anything: it is a label: what it is worth is what the hold of that sum in a sandbox is worth. -/
noncomputable def Try.pinned : Pinned := { name := "ytnjmjdbilblieaa", sum := "2908a95a28778f03d435a796dc869c445c261efee218c819a613b1f8b1b0311c", checked := Try.checked }
namespace Rows
def none {H : Type} : Left H := { results := [], args := [] }

/-- 'headendlaw1.TickConvertsAreClose': WHATEVER THE INPUT: true; the input reads as it did. -/
def tickConvertsAreCloseSpec : ChangeSpec := { name := "tickConvertsAreClose", fn := fun _ => fun
  | [d1, d2, d3] => { results := [.lit (.bool true)], args := [d1, d2, d3] }
  | _ => none }
def tickConvertsAreCloseRow : OpenClaim := { program := "ytnjmjdbilblieaa", sum := "2908a95a28778f03d435a796dc869c445c261efee218c819a613b1f8b1b0311c", func := "headend/headendlaw1.TickConvertsAreClose", spec := "tickConvertsAreClose", named := ["math/bits.divideError", "math/bits.overflowError"], apart := false }
def TickConvertsAreCloseSaid : Prop := tickConvertsAreCloseRow.holds Try.pinned (OpenSpec.ofChange tickConvertsAreCloseSpec)

/-- ITS FALSE NEIGHBOUR: 'it returns false'. Refute it at one input. -/
def tickConvertsAreCloseWrong : ChangeSpec := { name := "tickConvertsAreClose", fn := fun _ => fun
  | [d1, d2, d3] => { results := [.lit (.bool false)], args := [d1, d2, d3] }
  | _ => none }
def TickConvertsAreCloseWrongFalsely : Prop := tickConvertsAreCloseRow.holds Try.pinned (OpenSpec.ofChange tickConvertsAreCloseWrong)

/-- 'headendlaw1.TickWrapsMatchSpec': WHATEVER THE INPUT: true; the input reads as it did. -/
def tickWrapsMatchSpecSpec : ChangeSpec := { name := "tickWrapsMatchSpec", fn := fun _ => fun
  | [d1, d2] => { results := [.lit (.bool true)], args := [d1, d2] }
  | _ => none }
def tickWrapsMatchSpecRow : OpenClaim := { program := "ytnjmjdbilblieaa", sum := "2908a95a28778f03d435a796dc869c445c261efee218c819a613b1f8b1b0311c", func := "headend/headendlaw1.TickWrapsMatchSpec", spec := "tickWrapsMatchSpec", named := ["math/bits.divideError", "math/bits.overflowError"], apart := false }
def TickWrapsMatchSpecSaid : Prop := tickWrapsMatchSpecRow.holds Try.pinned (OpenSpec.ofChange tickWrapsMatchSpecSpec)

/-- ITS FALSE NEIGHBOUR: 'it returns false'. Refute it at one input. -/
def tickWrapsMatchSpecWrong : ChangeSpec := { name := "tickWrapsMatchSpec", fn := fun _ => fun
  | [d1, d2] => { results := [.lit (.bool false)], args := [d1, d2] }
  | _ => none }
def TickWrapsMatchSpecWrongFalsely : Prop := tickWrapsMatchSpecRow.holds Try.pinned (OpenSpec.ofChange tickWrapsMatchSpecWrong)

/-- 'headendlaw1.TickWrapsComeBack': WHATEVER THE INPUT: true; the input reads as it did. -/
def tickWrapsComeBackSpec : ChangeSpec := { name := "tickWrapsComeBack", fn := fun _ => fun
  | [d1, d2] => { results := [.lit (.bool true)], args := [d1, d2] }
  | _ => none }
def tickWrapsComeBackRow : OpenClaim := { program := "ytnjmjdbilblieaa", sum := "2908a95a28778f03d435a796dc869c445c261efee218c819a613b1f8b1b0311c", func := "headend/headendlaw1.TickWrapsComeBack", spec := "tickWrapsComeBack", named := ["math/bits.divideError", "math/bits.overflowError"], apart := false }
def TickWrapsComeBackSaid : Prop := tickWrapsComeBackRow.holds Try.pinned (OpenSpec.ofChange tickWrapsComeBackSpec)

/-- ITS FALSE NEIGHBOUR: 'it returns false'. Refute it at one input. -/
def tickWrapsComeBackWrong : ChangeSpec := { name := "tickWrapsComeBack", fn := fun _ => fun
  | [d1, d2] => { results := [.lit (.bool false)], args := [d1, d2] }
  | _ => none }
def TickWrapsComeBackWrongFalsely : Prop := tickWrapsComeBackRow.holds Try.pinned (OpenSpec.ofChange tickWrapsComeBackWrong)

/-- 'headendlaw1.TickSpansMatchSpec': WHATEVER THE INPUT: true; the input reads as it did. -/
def tickSpansMatchSpecSpec : ChangeSpec := { name := "tickSpansMatchSpec", fn := fun _ => fun
  | [d1, d2] => { results := [.lit (.bool true)], args := [d1, d2] }
  | _ => none }
def tickSpansMatchSpecRow : OpenClaim := { program := "ytnjmjdbilblieaa", sum := "2908a95a28778f03d435a796dc869c445c261efee218c819a613b1f8b1b0311c", func := "headend/headendlaw1.TickSpansMatchSpec", spec := "tickSpansMatchSpec", unfollowed := true, recurses := true, named := ["math/bits.divideError", "math/bits.overflowError"], apart := false }
def TickSpansMatchSpecSaid : Prop := tickSpansMatchSpecRow.holds Try.pinned (OpenSpec.ofChange tickSpansMatchSpecSpec)

/-- ITS FALSE NEIGHBOUR: 'it returns false'. Refute it at one input. -/
def tickSpansMatchSpecWrong : ChangeSpec := { name := "tickSpansMatchSpec", fn := fun _ => fun
  | [d1, d2] => { results := [.lit (.bool false)], args := [d1, d2] }
  | _ => none }
def TickSpansMatchSpecWrongFalsely : Prop := tickSpansMatchSpecRow.holds Try.pinned (OpenSpec.ofChange tickSpansMatchSpecWrong)

/-- 'headendlaw1.TickSpansAddUp': WHATEVER THE INPUT: true; the input reads as it did. -/
def tickSpansAddUpSpec : ChangeSpec := { name := "tickSpansAddUp", fn := fun _ => fun
  | [d1, d2] => { results := [.lit (.bool true)], args := [d1, d2] }
  | _ => none }
def tickSpansAddUpRow : OpenClaim := { program := "ytnjmjdbilblieaa", sum := "2908a95a28778f03d435a796dc869c445c261efee218c819a613b1f8b1b0311c", func := "headend/headendlaw1.TickSpansAddUp", spec := "tickSpansAddUp", unfollowed := true, recurses := true, named := ["math/bits.divideError", "math/bits.overflowError"], apart := false }
def TickSpansAddUpSaid : Prop := tickSpansAddUpRow.holds Try.pinned (OpenSpec.ofChange tickSpansAddUpSpec)

/-- ITS FALSE NEIGHBOUR: 'it returns false'. Refute it at one input. -/
def tickSpansAddUpWrong : ChangeSpec := { name := "tickSpansAddUp", fn := fun _ => fun
  | [d1, d2] => { results := [.lit (.bool false)], args := [d1, d2] }
  | _ => none }
def TickSpansAddUpWrongFalsely : Prop := tickSpansAddUpRow.holds Try.pinned (OpenSpec.ofChange tickSpansAddUpWrong)

/-- 'headendlaw1.TickFramesAreFound': WHATEVER THE INPUT: true; the input reads as it did. -/
def tickFramesAreFoundSpec : ChangeSpec := { name := "tickFramesAreFound", fn := fun _ => fun
  | [d1, d2, d3, d4, d5] => { results := [.lit (.bool true)], args := [d1, d2, d3, d4, d5] }
  | _ => none }
def tickFramesAreFoundRow : OpenClaim := { program := "ytnjmjdbilblieaa", sum := "2908a95a28778f03d435a796dc869c445c261efee218c819a613b1f8b1b0311c", func := "headend/headendlaw1.TickFramesAreFound", spec := "tickFramesAreFound", named := ["math/bits.divideError", "math/bits.overflowError"], apart := false }
def TickFramesAreFoundSaid : Prop := tickFramesAreFoundRow.holds Try.pinned (OpenSpec.ofChange tickFramesAreFoundSpec)

/-- ITS FALSE NEIGHBOUR: 'it returns false'. Refute it at one input. -/
def tickFramesAreFoundWrong : ChangeSpec := { name := "tickFramesAreFound", fn := fun _ => fun
  | [d1, d2, d3, d4, d5] => { results := [.lit (.bool false)], args := [d1, d2, d3, d4, d5] }
  | _ => none }
def TickFramesAreFoundWrongFalsely : Prop := tickFramesAreFoundRow.holds Try.pinned (OpenSpec.ofChange tickFramesAreFoundWrong)

/- THE SECOND FORM. 'bulk': how many values and letters a reading holds, each counted each time it is reached (what is shared counts as often as it is met; a slice's spare places count too). A statement '..UptoSaid' is the law's where the arguments, and the package variables that the reading takes, are together of bulk at most 1048576: NARROWER than '..Said'. Prove '..Said' where nothing that the law and all that it calls make is longer than what came in: it says more and counts as full. Else prove '..UptoSaid'. A law counts once. -/
mutual
def uptoBulk {H : Type} : DataW H → Nat
  | .lit (.string bytes) => bytes.length + 1
  | .lit _ => 1
  | .nil => 1
  | .ptr d => uptoBulk d + 1
  | .slice elems spare => uptoBulkAll elems + uptoBulkAll spare + 1
  | .agg parts => uptoBulkAll parts + 1
  | .iface _ d => uptoBulk d + 1
  | .map entries => uptoBulkEntries entries + 1
  | .held _ => 1
def uptoBulkAll {H : Type} : List (DataW H) → Nat
  | [] => 0
  | d :: r => uptoBulk d + uptoBulkAll r
def uptoBulkEntries {H : Type} : List (Lit × DataW H) → Nat
  | [] => 0
  | x :: r => uptoBulkEntry x + uptoBulkEntries r
def uptoBulkEntry {H : Type} : Lit × DataW H → Nat
  | (.string bytes, d) => bytes.length + uptoBulk d + 1
  | (_, d) => uptoBulk d + 1
 end
def uptoSmall : (H : Type) → List (DataW H) → Bool := fun _ ds => decide (uptoBulkAll ds ≤ 1048576)
def OpenSpec.upto (s : _root_.Go.ChangeSpec) : _root_.Go.OpenSpec := { _root_.Go.OpenSpec.ofChange s with cond := some uptoSmall }

/-- 'headendlaw1.TickConvertsAreClose', WHERE WHAT IT READS IS OF BULK AT MOST 1048576: true; the input reads as it did. -/
def tickConvertsAreCloseUptoRow : OpenClaim := { program := "ytnjmjdbilblieaa", sum := "2908a95a28778f03d435a796dc869c445c261efee218c819a613b1f8b1b0311c", func := "headend/headendlaw1.TickConvertsAreClose", spec := "tickConvertsAreClose", named := ["math/bits.divideError", "math/bits.overflowError"], apart := false, narrowed := true }
def TickConvertsAreCloseUptoSaid : Prop := tickConvertsAreCloseUptoRow.holds Try.pinned (OpenSpec.upto tickConvertsAreCloseSpec)

/-- 'headendlaw1.TickWrapsMatchSpec', WHERE WHAT IT READS IS OF BULK AT MOST 1048576: true; the input reads as it did. -/
def tickWrapsMatchSpecUptoRow : OpenClaim := { program := "ytnjmjdbilblieaa", sum := "2908a95a28778f03d435a796dc869c445c261efee218c819a613b1f8b1b0311c", func := "headend/headendlaw1.TickWrapsMatchSpec", spec := "tickWrapsMatchSpec", named := ["math/bits.divideError", "math/bits.overflowError"], apart := false, narrowed := true }
def TickWrapsMatchSpecUptoSaid : Prop := tickWrapsMatchSpecUptoRow.holds Try.pinned (OpenSpec.upto tickWrapsMatchSpecSpec)

/-- 'headendlaw1.TickWrapsComeBack', WHERE WHAT IT READS IS OF BULK AT MOST 1048576: true; the input reads as it did. -/
def tickWrapsComeBackUptoRow : OpenClaim := { program := "ytnjmjdbilblieaa", sum := "2908a95a28778f03d435a796dc869c445c261efee218c819a613b1f8b1b0311c", func := "headend/headendlaw1.TickWrapsComeBack", spec := "tickWrapsComeBack", named := ["math/bits.divideError", "math/bits.overflowError"], apart := false, narrowed := true }
def TickWrapsComeBackUptoSaid : Prop := tickWrapsComeBackUptoRow.holds Try.pinned (OpenSpec.upto tickWrapsComeBackSpec)

/-- 'headendlaw1.TickSpansMatchSpec', WHERE WHAT IT READS IS OF BULK AT MOST 1048576: true; the input reads as it did. -/
def tickSpansMatchSpecUptoRow : OpenClaim := { program := "ytnjmjdbilblieaa", sum := "2908a95a28778f03d435a796dc869c445c261efee218c819a613b1f8b1b0311c", func := "headend/headendlaw1.TickSpansMatchSpec", spec := "tickSpansMatchSpec", unfollowed := true, recurses := true, named := ["math/bits.divideError", "math/bits.overflowError"], apart := false, narrowed := true }
def TickSpansMatchSpecUptoSaid : Prop := tickSpansMatchSpecUptoRow.holds Try.pinned (OpenSpec.upto tickSpansMatchSpecSpec)

/-- 'headendlaw1.TickSpansAddUp', WHERE WHAT IT READS IS OF BULK AT MOST 1048576: true; the input reads as it did. -/
def tickSpansAddUpUptoRow : OpenClaim := { program := "ytnjmjdbilblieaa", sum := "2908a95a28778f03d435a796dc869c445c261efee218c819a613b1f8b1b0311c", func := "headend/headendlaw1.TickSpansAddUp", spec := "tickSpansAddUp", unfollowed := true, recurses := true, named := ["math/bits.divideError", "math/bits.overflowError"], apart := false, narrowed := true }
def TickSpansAddUpUptoSaid : Prop := tickSpansAddUpUptoRow.holds Try.pinned (OpenSpec.upto tickSpansAddUpSpec)

/-- 'headendlaw1.TickFramesAreFound', WHERE WHAT IT READS IS OF BULK AT MOST 1048576: true; the input reads as it did. -/
def tickFramesAreFoundUptoRow : OpenClaim := { program := "ytnjmjdbilblieaa", sum := "2908a95a28778f03d435a796dc869c445c261efee218c819a613b1f8b1b0311c", func := "headend/headendlaw1.TickFramesAreFound", spec := "tickFramesAreFound", named := ["math/bits.divideError", "math/bits.overflowError"], apart := false, narrowed := true }
def TickFramesAreFoundUptoSaid : Prop := tickFramesAreFoundUptoRow.holds Try.pinned (OpenSpec.upto tickFramesAreFoundSpec)

end Rows
end Go.Proofs.Ytnjmjdbilblieaa
