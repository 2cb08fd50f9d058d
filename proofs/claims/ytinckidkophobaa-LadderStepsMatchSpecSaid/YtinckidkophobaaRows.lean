/-
  No cell of these rows narrows 'for every input' (looked for: loops, veiled, ifaces, maps, wideKeys, modest, calm, conditions, laid).
  DERIVED. THE GIVEN ROWS OF THIS SEAT. 3 by the template 'for every input the law returns true; each argument reads behind the call as it read before'; 0 by the template 'total and deterministic' (their statements: YtinckidkophobaaTotals.lean).
  GIVEN WITH THE SEED: the statements are not yours to turn. If you find one false, say at which input.
  Laid BY PROGRAM, IN A SANDBOX (cutbox-rows.mjs): the forced cells as the released guide's own fill.sh prints them over the translation dc1dfbb7b7920d3e… (all of the seat's roots in one cut). By AI agents, Wed Nov 11 2026. No macro, syntax, notation, axiom, sorry.
-/
import Derived.Test.YtinckidkophobaaChecked
import GoSem.Claim
import GoSem.ClaimJoined
import GoSem.ClaimMapViews
import Derived.JoinedTies
import Derived.KernelRfl
namespace Go.Proofs.Ytinckidkophobaa
/- THE CELL 'sum', in the pinned program and in every row, IS THE sha256 OF THE DUMP (.gsa) THAT YtinckidkophobaaProg.lean LOADS. Nothing in Lean hashes anything: it is a label: what it is worth is what the hold of that sum in a sandbox is worth. -/
noncomputable def Try.pinned : Pinned := { name := "ytinckidkophobaa", sum := "dc1dfbb7b7920d3e9c90c28d07af0c2cbfbdad384496bfabc06df6fa964e69bb", checked := Try.checked }
namespace Rows
def none {H : Type} : Left H := { results := [], args := [] }

/-- 'headendlaw5.LadderStepsMatchSpec': WHATEVER THE INPUT: true; the input reads as it did. -/
def ladderStepsMatchSpecSpec : ChangeSpec := { name := "ladderStepsMatchSpec", fn := fun _ => fun
  | [d1, d2, d3, d4] => { results := [.lit (.bool true)], args := [d1, d2, d3, d4] }
  | _ => none }
def ladderStepsMatchSpecRow : OpenClaim := { program := "ytinckidkophobaa", sum := "dc1dfbb7b7920d3e9c90c28d07af0c2cbfbdad384496bfabc06df6fa964e69bb", func := "headend/headendlaw5.LadderStepsMatchSpec", spec := "ladderStepsMatchSpec", unfollowed := true, recurses := true, apart := false }
def LadderStepsMatchSpecSaid : Prop := ladderStepsMatchSpecRow.holds Try.pinned (OpenSpec.ofChange ladderStepsMatchSpecSpec)

/-- ITS FALSE NEIGHBOUR: 'it returns false'. Refute it at one input. -/
def ladderStepsMatchSpecWrong : ChangeSpec := { name := "ladderStepsMatchSpec", fn := fun _ => fun
  | [d1, d2, d3, d4] => { results := [.lit (.bool false)], args := [d1, d2, d3, d4] }
  | _ => none }
def LadderStepsMatchSpecWrongFalsely : Prop := ladderStepsMatchSpecRow.holds Try.pinned (OpenSpec.ofChange ladderStepsMatchSpecWrong)

/-- 'headendlaw5.LadderBestMatchesSpec': WHATEVER THE INPUT: true; the input reads as it did. -/
def ladderBestMatchesSpecSpec : ChangeSpec := { name := "ladderBestMatchesSpec", fn := fun _ => fun
  | [d1, d2, d3] => { results := [.lit (.bool true)], args := [d1, d2, d3] }
  | _ => none }
def ladderBestMatchesSpecRow : OpenClaim := { program := "ytinckidkophobaa", sum := "dc1dfbb7b7920d3e9c90c28d07af0c2cbfbdad384496bfabc06df6fa964e69bb", func := "headend/headendlaw5.LadderBestMatchesSpec", spec := "ladderBestMatchesSpec", unfollowed := true, recurses := true, apart := false }
def LadderBestMatchesSpecSaid : Prop := ladderBestMatchesSpecRow.holds Try.pinned (OpenSpec.ofChange ladderBestMatchesSpecSpec)

/-- ITS FALSE NEIGHBOUR: 'it returns false'. Refute it at one input. -/
def ladderBestMatchesSpecWrong : ChangeSpec := { name := "ladderBestMatchesSpec", fn := fun _ => fun
  | [d1, d2, d3] => { results := [.lit (.bool false)], args := [d1, d2, d3] }
  | _ => none }
def LadderBestMatchesSpecWrongFalsely : Prop := ladderBestMatchesSpecRow.holds Try.pinned (OpenSpec.ofChange ladderBestMatchesSpecWrong)

/-- 'headendlaw5.LadderBestIsWorthMost': WHATEVER THE INPUT: true; the input reads as it did. -/
def ladderBestIsWorthMostSpec : ChangeSpec := { name := "ladderBestIsWorthMost", fn := fun _ => fun
  | [d1, d2, d3, d4] => { results := [.lit (.bool true)], args := [d1, d2, d3, d4] }
  | _ => none }
def ladderBestIsWorthMostRow : OpenClaim := { program := "ytinckidkophobaa", sum := "dc1dfbb7b7920d3e9c90c28d07af0c2cbfbdad384496bfabc06df6fa964e69bb", func := "headend/headendlaw5.LadderBestIsWorthMost", spec := "ladderBestIsWorthMost", unfollowed := true, recurses := true, apart := false }
def LadderBestIsWorthMostSaid : Prop := ladderBestIsWorthMostRow.holds Try.pinned (OpenSpec.ofChange ladderBestIsWorthMostSpec)

/-- ITS FALSE NEIGHBOUR: 'it returns false'. Refute it at one input. -/
def ladderBestIsWorthMostWrong : ChangeSpec := { name := "ladderBestIsWorthMost", fn := fun _ => fun
  | [d1, d2, d3, d4] => { results := [.lit (.bool false)], args := [d1, d2, d3, d4] }
  | _ => none }
def LadderBestIsWorthMostWrongFalsely : Prop := ladderBestIsWorthMostRow.holds Try.pinned (OpenSpec.ofChange ladderBestIsWorthMostWrong)

/- THE SECOND FORM. 'bulk': how many values and letters a reading holds, each counted each time it is reached (what is shared counts as often as it is met; a slice's spare places count too). A statement '..UptoSaid' is the law's where the arguments, and the package variables that the reading takes, are together of bulk at most 1048576: NARROWER than '..Said'. Prove '..Said' where nothing that the law and all that it calls make is longer than what came in: it says more and counts as full. Else prove '..UptoSaid'. A law counts once. -/
mutual
def uptoBulk {H : Type} : DataW H → Nat
  | .lit (.string bytes) => bytes.length + 1
  | .lit _ => 1
  | .nil => 1
  | .ptr d => uptoBulk d + 1
  | .slice elems spare => uptoBulkAll elems + uptoBulkAll spare + 1
  | .agg parts => uptoBulkAll parts + 1
  | .iface _ d => uptoBulk d + 1
  | .map entries => uptoBulkEntries entries + 1
  | .held _ => 1
def uptoBulkAll {H : Type} : List (DataW H) → Nat
  | [] => 0
  | d :: r => uptoBulk d + uptoBulkAll r
def uptoBulkEntries {H : Type} : List (Lit × DataW H) → Nat
  | [] => 0
  | x :: r => uptoBulkEntry x + uptoBulkEntries r
def uptoBulkEntry {H : Type} : Lit × DataW H → Nat
  | (.string bytes, d) => bytes.length + uptoBulk d + 1
  | (_, d) => uptoBulk d + 1
 end
def uptoSmall : (H : Type) → List (DataW H) → Bool := fun _ ds => decide (uptoBulkAll ds ≤ 1048576)
def OpenSpec.upto (s : _root_.Go.ChangeSpec) : _root_.Go.OpenSpec := { _root_.Go.OpenSpec.ofChange s with cond := some uptoSmall }

/-- 'headendlaw5.LadderStepsMatchSpec', WHERE WHAT IT READS IS OF BULK AT MOST 1048576: true; the input reads as it did. -/
def ladderStepsMatchSpecUptoRow : OpenClaim := { program := "ytinckidkophobaa", sum := "dc1dfbb7b7920d3e9c90c28d07af0c2cbfbdad384496bfabc06df6fa964e69bb", func := "headend/headendlaw5.LadderStepsMatchSpec", spec := "ladderStepsMatchSpec", unfollowed := true, recurses := true, apart := false, narrowed := true }
def LadderStepsMatchSpecUptoSaid : Prop := ladderStepsMatchSpecUptoRow.holds Try.pinned (OpenSpec.upto ladderStepsMatchSpecSpec)

/-- 'headendlaw5.LadderBestMatchesSpec', WHERE WHAT IT READS IS OF BULK AT MOST 1048576: true; the input reads as it did. -/
def ladderBestMatchesSpecUptoRow : OpenClaim := { program := "ytinckidkophobaa", sum := "dc1dfbb7b7920d3e9c90c28d07af0c2cbfbdad384496bfabc06df6fa964e69bb", func := "headend/headendlaw5.LadderBestMatchesSpec", spec := "ladderBestMatchesSpec", unfollowed := true, recurses := true, apart := false, narrowed := true }
def LadderBestMatchesSpecUptoSaid : Prop := ladderBestMatchesSpecUptoRow.holds Try.pinned (OpenSpec.upto ladderBestMatchesSpecSpec)

/-- 'headendlaw5.LadderBestIsWorthMost', WHERE WHAT IT READS IS OF BULK AT MOST 1048576: true; the input reads as it did. -/
def ladderBestIsWorthMostUptoRow : OpenClaim := { program := "ytinckidkophobaa", sum := "dc1dfbb7b7920d3e9c90c28d07af0c2cbfbdad384496bfabc06df6fa964e69bb", func := "headend/headendlaw5.LadderBestIsWorthMost", spec := "ladderBestIsWorthMost", unfollowed := true, recurses := true, apart := false, narrowed := true }
def LadderBestIsWorthMostUptoSaid : Prop := ladderBestIsWorthMostUptoRow.holds Try.pinned (OpenSpec.upto ladderBestIsWorthMostSpec)

end Rows
end Go.Proofs.Ytinckidkophobaa
