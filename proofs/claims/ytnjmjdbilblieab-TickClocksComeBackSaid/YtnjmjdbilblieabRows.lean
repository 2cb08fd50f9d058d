/-
  No cell of these rows narrows 'for every input' (looked for: loops, veiled, ifaces, maps, wideKeys, modest, calm, conditions, laid).
  DERIVED. THE GIVEN ROWS OF THIS SEAT. 4 by the template 'for every input the law returns true; each argument reads behind the call as it read before'; 0 by the template 'total and deterministic' (their statements: YtnjmjdbilblieabTotals.lean).
  GIVEN WITH THE SEED: the statements are not yours to turn. If you find one false, say at which input.
  Laid BY PROGRAM, IN A SANDBOX (cutbox-rows.mjs): the forced cells as the released guide's own fill.sh prints them over the translation fa12c8da4e67e0ff… (all of the seat's roots in one cut). By AI agents, Wed Nov 11 2026. No macro, syntax, notation, axiom, sorry.
-/
import Derived.Test.YtnjmjdbilblieabChecked
import GoSem.Claim
import GoSem.ClaimJoined
import GoSem.ClaimMapViews
import Derived.JoinedTies
import Derived.KernelRfl
namespace Go.Proofs.Ytnjmjdbilblieab
/- THE CELL 'sum', in the pinned program and in every row, IS THE sha256 OF THE DUMP (.gsa) THAT YtnjmjdbilblieabProg.lean LOADS. Nothing in Lean hashes anything: it is a label: what it is worth is what the hold of that sum in a sandbox is worth. -/
noncomputable def Try.pinned : Pinned := { name := "ytnjmjdbilblieab", sum := "fa12c8da4e67e0fffdf4765fdeaaf446c384fdfbd2e36103e430950c32d74602", checked := Try.checked }
namespace Rows
def none {H : Type} : Left H := { results := [], args := [] }

/-- 'headendlaw1.TickRegularsMatchSpec': WHATEVER THE INPUT: true; the input reads as it did. -/
def tickRegularsMatchSpecSpec : ChangeSpec := { name := "tickRegularsMatchSpec", fn := fun _ => fun
  | [d1, d2, d3] => { results := [.lit (.bool true)], args := [d1, d2, d3] }
  | _ => none }
def tickRegularsMatchSpecRow : OpenClaim := { program := "ytnjmjdbilblieab", sum := "fa12c8da4e67e0fffdf4765fdeaaf446c384fdfbd2e36103e430950c32d74602", func := "headend/headendlaw1.TickRegularsMatchSpec", spec := "tickRegularsMatchSpec", named := ["math/bits.divideError", "math/bits.overflowError"], apart := false }
def TickRegularsMatchSpecSaid : Prop := tickRegularsMatchSpecRow.holds Try.pinned (OpenSpec.ofChange tickRegularsMatchSpecSpec)

/-- ITS FALSE NEIGHBOUR: 'it returns false'. Refute it at one input. -/
def tickRegularsMatchSpecWrong : ChangeSpec := { name := "tickRegularsMatchSpec", fn := fun _ => fun
  | [d1, d2, d3] => { results := [.lit (.bool false)], args := [d1, d2, d3] }
  | _ => none }
def TickRegularsMatchSpecWrongFalsely : Prop := tickRegularsMatchSpecRow.holds Try.pinned (OpenSpec.ofChange tickRegularsMatchSpecWrong)

/-- 'headendlaw1.TickRegularsStayClose': WHATEVER THE INPUT: true; the input reads as it did. -/
def tickRegularsStayCloseSpec : ChangeSpec := { name := "tickRegularsStayClose", fn := fun _ => fun
  | [d1, d2, d3] => { results := [.lit (.bool true)], args := [d1, d2, d3] }
  | _ => none }
def tickRegularsStayCloseRow : OpenClaim := { program := "ytnjmjdbilblieab", sum := "fa12c8da4e67e0fffdf4765fdeaaf446c384fdfbd2e36103e430950c32d74602", func := "headend/headendlaw1.TickRegularsStayClose", spec := "tickRegularsStayClose", named := ["math/bits.divideError", "math/bits.overflowError"], apart := false }
def TickRegularsStayCloseSaid : Prop := tickRegularsStayCloseRow.holds Try.pinned (OpenSpec.ofChange tickRegularsStayCloseSpec)

/-- ITS FALSE NEIGHBOUR: 'it returns false'. Refute it at one input. -/
def tickRegularsStayCloseWrong : ChangeSpec := { name := "tickRegularsStayClose", fn := fun _ => fun
  | [d1, d2, d3] => { results := [.lit (.bool false)], args := [d1, d2, d3] }
  | _ => none }
def TickRegularsStayCloseWrongFalsely : Prop := tickRegularsStayCloseRow.holds Try.pinned (OpenSpec.ofChange tickRegularsStayCloseWrong)

/-- 'headendlaw1.TickClocksComeBack': WHATEVER THE INPUT: true; the input reads as it did. -/
def tickClocksComeBackSpec : ChangeSpec := { name := "tickClocksComeBack", fn := fun _ => fun
  | [d1, d2, d3] => { results := [.lit (.bool true)], args := [d1, d2, d3] }
  | _ => none }
def tickClocksComeBackRow : OpenClaim := { program := "ytnjmjdbilblieab", sum := "fa12c8da4e67e0fffdf4765fdeaaf446c384fdfbd2e36103e430950c32d74602", func := "headend/headendlaw1.TickClocksComeBack", spec := "tickClocksComeBack", unfollowed := true, recurses := true, named := ["math/bits.divideError", "math/bits.overflowError"], apart := false }
def TickClocksComeBackSaid : Prop := tickClocksComeBackRow.holds Try.pinned (OpenSpec.ofChange tickClocksComeBackSpec)

/-- ITS FALSE NEIGHBOUR: 'it returns false'. Refute it at one input. -/
def tickClocksComeBackWrong : ChangeSpec := { name := "tickClocksComeBack", fn := fun _ => fun
  | [d1, d2, d3] => { results := [.lit (.bool false)], args := [d1, d2, d3] }
  | _ => none }
def TickClocksComeBackWrongFalsely : Prop := tickClocksComeBackRow.holds Try.pinned (OpenSpec.ofChange tickClocksComeBackWrong)

/-- 'headendlaw1.TickKeptsAreClose': WHATEVER THE INPUT: true; the input reads as it did. -/
def tickKeptsAreCloseSpec : ChangeSpec := { name := "tickKeptsAreClose", fn := fun _ => fun
  | [d1, d2, d3] => { results := [.lit (.bool true)], args := [d1, d2, d3] }
  | _ => none }
def tickKeptsAreCloseRow : OpenClaim := { program := "ytnjmjdbilblieab", sum := "fa12c8da4e67e0fffdf4765fdeaaf446c384fdfbd2e36103e430950c32d74602", func := "headend/headendlaw1.TickKeptsAreClose", spec := "tickKeptsAreClose", unfollowed := true, recurses := true, named := ["math/bits.divideError", "math/bits.overflowError"], apart := false }
def TickKeptsAreCloseSaid : Prop := tickKeptsAreCloseRow.holds Try.pinned (OpenSpec.ofChange tickKeptsAreCloseSpec)

/-- ITS FALSE NEIGHBOUR: 'it returns false'. Refute it at one input. -/
def tickKeptsAreCloseWrong : ChangeSpec := { name := "tickKeptsAreClose", fn := fun _ => fun
  | [d1, d2, d3] => { results := [.lit (.bool false)], args := [d1, d2, d3] }
  | _ => none }
def TickKeptsAreCloseWrongFalsely : Prop := tickKeptsAreCloseRow.holds Try.pinned (OpenSpec.ofChange tickKeptsAreCloseWrong)

/- THE SECOND FORM. 'bulk': how many values and letters a reading holds, each counted each time it is reached (what is shared counts as often as it is met; a slice's spare places count too). A statement '..UptoSaid' is the law's where the arguments, and the package variables that the reading takes, are together of bulk at most 1048576: NARROWER than '..Said'. Prove '..Said' where nothing that the law and all that it calls make is longer than what came in: it says more and counts as full. Else prove '..UptoSaid'. A law counts once. -/
mutual
def uptoBulk {H : Type} : DataW H → Nat
  | .lit (.string bytes) => bytes.length + 1
  | .lit _ => 1
  | .nil => 1
  | .ptr d => uptoBulk d + 1
  | .slice elems spare => uptoBulkAll elems + uptoBulkAll spare + 1
  | .agg parts => uptoBulkAll parts + 1
  | .iface _ d => uptoBulk d + 1
  | .map entries => uptoBulkEntries entries + 1
  | .held _ => 1
def uptoBulkAll {H : Type} : List (DataW H) → Nat
  | [] => 0
  | d :: r => uptoBulk d + uptoBulkAll r
def uptoBulkEntries {H : Type} : List (Lit × DataW H) → Nat
  | [] => 0
  | x :: r => uptoBulkEntry x + uptoBulkEntries r
def uptoBulkEntry {H : Type} : Lit × DataW H → Nat
  | (.string bytes, d) => bytes.length + uptoBulk d + 1
  | (_, d) => uptoBulk d + 1
 end
def uptoSmall : (H : Type) → List (DataW H) → Bool := fun _ ds => decide (uptoBulkAll ds ≤ 1048576)
def OpenSpec.upto (s : _root_.Go.ChangeSpec) : _root_.Go.OpenSpec := { _root_.Go.OpenSpec.ofChange s with cond := some uptoSmall }

/-- 'headendlaw1.TickRegularsMatchSpec', WHERE WHAT IT READS IS OF BULK AT MOST 1048576: true; the input reads as it did. -/
def tickRegularsMatchSpecUptoRow : OpenClaim := { program := "ytnjmjdbilblieab", sum := "fa12c8da4e67e0fffdf4765fdeaaf446c384fdfbd2e36103e430950c32d74602", func := "headend/headendlaw1.TickRegularsMatchSpec", spec := "tickRegularsMatchSpec", named := ["math/bits.divideError", "math/bits.overflowError"], apart := false, narrowed := true }
def TickRegularsMatchSpecUptoSaid : Prop := tickRegularsMatchSpecUptoRow.holds Try.pinned (OpenSpec.upto tickRegularsMatchSpecSpec)

/-- 'headendlaw1.TickRegularsStayClose', WHERE WHAT IT READS IS OF BULK AT MOST 1048576: true; the input reads as it did. -/
def tickRegularsStayCloseUptoRow : OpenClaim := { program := "ytnjmjdbilblieab", sum := "fa12c8da4e67e0fffdf4765fdeaaf446c384fdfbd2e36103e430950c32d74602", func := "headend/headendlaw1.TickRegularsStayClose", spec := "tickRegularsStayClose", named := ["math/bits.divideError", "math/bits.overflowError"], apart := false, narrowed := true }
def TickRegularsStayCloseUptoSaid : Prop := tickRegularsStayCloseUptoRow.holds Try.pinned (OpenSpec.upto tickRegularsStayCloseSpec)

/-- 'headendlaw1.TickClocksComeBack', WHERE WHAT IT READS IS OF BULK AT MOST 1048576: true; the input reads as it did. -/
def tickClocksComeBackUptoRow : OpenClaim := { program := "ytnjmjdbilblieab", sum := "fa12c8da4e67e0fffdf4765fdeaaf446c384fdfbd2e36103e430950c32d74602", func := "headend/headendlaw1.TickClocksComeBack", spec := "tickClocksComeBack", unfollowed := true, recurses := true, named := ["math/bits.divideError", "math/bits.overflowError"], apart := false, narrowed := true }
def TickClocksComeBackUptoSaid : Prop := tickClocksComeBackUptoRow.holds Try.pinned (OpenSpec.upto tickClocksComeBackSpec)

/-- 'headendlaw1.TickKeptsAreClose', WHERE WHAT IT READS IS OF BULK AT MOST 1048576: true; the input reads as it did. -/
def tickKeptsAreCloseUptoRow : OpenClaim := { program := "ytnjmjdbilblieab", sum := "fa12c8da4e67e0fffdf4765fdeaaf446c384fdfbd2e36103e430950c32d74602", func := "headend/headendlaw1.TickKeptsAreClose", spec := "tickKeptsAreClose", unfollowed := true, recurses := true, named := ["math/bits.divideError", "math/bits.overflowError"], apart := false, narrowed := true }
def TickKeptsAreCloseUptoSaid : Prop := tickKeptsAreCloseUptoRow.holds Try.pinned (OpenSpec.upto tickKeptsAreCloseSpec)

end Rows
end Go.Proofs.Ytnjmjdbilblieab
