/-
  DERIVED. GIVEN WITH THE SEED: THE CARDS: each row of YtppaklifacadpaaDoorRows.lean that lists a variable, with what it lists TIED to the program's text (the seventh form; the later family's looks); each row that meets fmt, with fmt's text TOLD by the authors' own Lean function (tested against real Go, not proved from fmt's source: count such statements apart). THE CARD IS WHAT COUNTS. Prove the row's statement (the work); the ties are given (YtppaklifacadpaaDoorTie.lean); close each card by the builder's one call (the guide's Derived/Test/ToyasCard.lean, 'card_holds'). Laid BY PROGRAM, IN A SANDBOX (cutbox-door.mjs). By AI agents, Wed Nov 11 2026. No macro, syntax, notation, axiom, sorry.
-/
import Derived.Test.YtppaklifacadpaaDoorRows
import GoSem.ClaimSeven
namespace Go.Proofs.YtppaklifacadpaaDoor
namespace Rows

/-- THE TIED CARD OF 'headendlaw1.TickDecimalsComeBack'. -/
def tickDecimalsComeBackCard : Claim7 := { stood := { row := tickDecimalsComeBackRow, standIns := [], harness := (true, "ec1e4960f6051c36d5599646cbbfcbb1593170b85c19d05c6ca1c3212be535e6"), looks := true }, kinds := [], alts := [], laidByText := true, laidKinds := [.data, .data, .data], laidTests := true, laidLooks := .later }
def TickDecimalsComeBackCardSaid : Prop := Claim7.holds Tryd.pinned (.plain (OpenSpec.ofChange tickDecimalsComeBackSpec)) tickDecimalsComeBackCard

/-- THE TIED CARD OF 'headendlaw1.TickDatesMatchSpec'. -/
def tickDatesMatchSpecCard : Claim7 := { stood := { row := tickDatesMatchSpecRow, standIns := [], harness := (true, "ec1e4960f6051c36d5599646cbbfcbb1593170b85c19d05c6ca1c3212be535e6"), looks := true }, kinds := [], alts := [], laidByText := true, laidKinds := [.data, .data, .data, .sentinel, .sentinel], laidTests := true, laidLooks := .later }
def TickDatesMatchSpecCardSaid : Prop := Claim7.holds Tryd.pinned (.plain (OpenSpec.ofChange tickDatesMatchSpecSpec)) tickDatesMatchSpecCard

/-- THE TIED CARD OF 'headendlaw1.TickDatesComeBack'. -/
def tickDatesComeBackCard : Claim7 := { stood := { row := tickDatesComeBackRow, standIns := [], harness := (true, "ec1e4960f6051c36d5599646cbbfcbb1593170b85c19d05c6ca1c3212be535e6"), looks := true }, kinds := [], alts := [], laidByText := true, laidKinds := [.data, .data, .data], laidTests := true, laidLooks := .later }
def TickDatesComeBackCardSaid : Prop := Claim7.holds Tryd.pinned (.plain (OpenSpec.ofChange tickDatesComeBackSpec)) tickDatesComeBackCard

/-- THE TIED CARD OF 'headendlaw1.TickClocksMatchSpec'. -/
def tickClocksMatchSpecCard : Claim7 := { stood := { row := tickClocksMatchSpecRow, standIns := [], harness := (true, "ec1e4960f6051c36d5599646cbbfcbb1593170b85c19d05c6ca1c3212be535e6"), looks := true }, kinds := [], alts := [], laidByText := true, laidKinds := [.data, .data, .data, .sentinel, .sentinel], laidTests := true, laidLooks := .later }
def TickClocksMatchSpecCardSaid : Prop := Claim7.holds Tryd.pinned (.plain (OpenSpec.ofChange tickClocksMatchSpecSpec)) tickClocksMatchSpecCard

/-- THE TIED CARD OF 'headendlaw2.BoxPacksMatchSpec'. -/
def boxPacksMatchSpecCard : Claim7 := { stood := { row := boxPacksMatchSpecRow, standIns := [], harness := (true, "ec1e4960f6051c36d5599646cbbfcbb1593170b85c19d05c6ca1c3212be535e6"), looks := true }, kinds := [], alts := [], laidByText := true, laidKinds := [.data, .pinned], laidTests := true, laidLooks := .later }
def BoxPacksMatchSpecCardSaid : Prop := Claim7.holds Tryd.pinned (.plain (OpenSpec.ofChange boxPacksMatchSpecSpec)) boxPacksMatchSpecCard

/-- THE SECOND FORM's CARD OF 'headendlaw1.TickDecimalsComeBack'. -/
def tickDecimalsComeBackUptoCard : Claim7 := { stood := { row := tickDecimalsComeBackUptoRow, standIns := [], harness := (true, "ec1e4960f6051c36d5599646cbbfcbb1593170b85c19d05c6ca1c3212be535e6"), looks := true }, kinds := [], alts := [], laidByText := true, laidKinds := [.data, .data, .data], laidTests := true, laidLooks := .later }
def TickDecimalsComeBackUptoCardSaid : Prop := Claim7.holds Tryd.pinned (.plain (OpenSpec.upto tickDecimalsComeBackSpec)) tickDecimalsComeBackUptoCard

/-- THE SECOND FORM's CARD OF 'headendlaw1.TickDatesMatchSpec'. -/
def tickDatesMatchSpecUptoCard : Claim7 := { stood := { row := tickDatesMatchSpecUptoRow, standIns := [], harness := (true, "ec1e4960f6051c36d5599646cbbfcbb1593170b85c19d05c6ca1c3212be535e6"), looks := true }, kinds := [], alts := [], laidByText := true, laidKinds := [.data, .data, .data, .sentinel, .sentinel], laidTests := true, laidLooks := .later }
def TickDatesMatchSpecUptoCardSaid : Prop := Claim7.holds Tryd.pinned (.plain (OpenSpec.upto tickDatesMatchSpecSpec)) tickDatesMatchSpecUptoCard

/-- THE SECOND FORM's CARD OF 'headendlaw1.TickDatesComeBack'. -/
def tickDatesComeBackUptoCard : Claim7 := { stood := { row := tickDatesComeBackUptoRow, standIns := [], harness := (true, "ec1e4960f6051c36d5599646cbbfcbb1593170b85c19d05c6ca1c3212be535e6"), looks := true }, kinds := [], alts := [], laidByText := true, laidKinds := [.data, .data, .data], laidTests := true, laidLooks := .later }
def TickDatesComeBackUptoCardSaid : Prop := Claim7.holds Tryd.pinned (.plain (OpenSpec.upto tickDatesComeBackSpec)) tickDatesComeBackUptoCard

/-- THE SECOND FORM's CARD OF 'headendlaw1.TickClocksMatchSpec'. -/
def tickClocksMatchSpecUptoCard : Claim7 := { stood := { row := tickClocksMatchSpecUptoRow, standIns := [], harness := (true, "ec1e4960f6051c36d5599646cbbfcbb1593170b85c19d05c6ca1c3212be535e6"), looks := true }, kinds := [], alts := [], laidByText := true, laidKinds := [.data, .data, .data, .sentinel, .sentinel], laidTests := true, laidLooks := .later }
def TickClocksMatchSpecUptoCardSaid : Prop := Claim7.holds Tryd.pinned (.plain (OpenSpec.upto tickClocksMatchSpecSpec)) tickClocksMatchSpecUptoCard

/-- THE SECOND FORM's CARD OF 'headendlaw2.BoxPacksMatchSpec'. -/
def boxPacksMatchSpecUptoCard : Claim7 := { stood := { row := boxPacksMatchSpecUptoRow, standIns := [], harness := (true, "ec1e4960f6051c36d5599646cbbfcbb1593170b85c19d05c6ca1c3212be535e6"), looks := true }, kinds := [], alts := [], laidByText := true, laidKinds := [.data, .pinned], laidTests := true, laidLooks := .later }
def BoxPacksMatchSpecUptoCardSaid : Prop := Claim7.holds Tryd.pinned (.plain (OpenSpec.upto boxPacksMatchSpecSpec)) boxPacksMatchSpecUptoCard
end Rows
end Go.Proofs.YtppaklifacadpaaDoor
