/-
  DERIVED. GIVEN WITH THE SEED: THE CARDS: each row of YtdoapojmenojoaaGreatDoorRows.lean that lists a variable, with what it lists TIED to the program's text (the seventh form; the later family's looks); each row that meets fmt, with fmt's text TOLD by the authors' own Lean function (tested against real Go, not proved from fmt's source: count such statements apart). THE CARD IS WHAT COUNTS. Prove the row's statement (the work); the ties are given (YtdoapojmenojoaaGreatDoorTie.lean); close each card by the builder's one call (the guide's Derived/Test/ToyasCard.lean, 'card_holds'). Laid BY PROGRAM, IN A SANDBOX (cutbox-door.mjs). By AI agents, Wed Nov 11 2026. No macro, syntax, notation, axiom, sorry.
-/
import Derived.Test.YtdoapojmenojoaaGreatDoorRows
import GoSem.ClaimSeven
namespace Go.Proofs.YtdoapojmenojoaaGreatDoor
namespace Rows

/-- THE TIED CARD OF 'waxworklaw05.SyntaxParses'. -/
def syntaxParsesCard : Claim7 := { stood := { row := syntaxParsesRow, standIns := [], harness := (true, "a09c62e6b43e2b4ee8b9da4e913f59c33e99b6cd9dc82f170383247612df9572"), looks := true }, kinds := [], alts := [], laidByText := true, laidKinds := [.data, .data, .data, .data, .sentinel, .sentinel, .pinned], laidTests := true, laidLooks := .later }
def SyntaxParsesCardSaid : Prop := Claim7.holds Tryz.pinned (.plain (OpenSpec.ofChange syntaxParsesSpec)) syntaxParsesCard

/-- THE TIED CARD OF 'waxworklaw05.SyntaxTells'. -/
def syntaxTellsCard : Claim7 := { stood := { row := syntaxTellsRow, standIns := [], harness := (true, "a09c62e6b43e2b4ee8b9da4e913f59c33e99b6cd9dc82f170383247612df9572"), looks := true }, kinds := [], alts := [], laidByText := true, laidKinds := [.data, .data, .data, .data, .sentinel, .sentinel, .pinned], laidTests := true, laidLooks := .later }
def SyntaxTellsCardSaid : Prop := Claim7.holds Tryz.pinned (.plain (OpenSpec.ofChange syntaxTellsSpec)) syntaxTellsCard

/-- THE TIED CARD OF 'waxworklaw06.SimpleTells'. -/
def simpleTellsCard : Claim7 := { stood := { row := simpleTellsRow, standIns := [], harness := (true, "a09c62e6b43e2b4ee8b9da4e913f59c33e99b6cd9dc82f170383247612df9572"), looks := true }, kinds := [], alts := [], laidByText := true, laidKinds := [.data, .data, .data, .data, .sentinel, .sentinel, .pinned], laidTests := true, laidLooks := .later }
def SimpleTellsCardSaid : Prop := Claim7.holds Tryz.pinned (.plain (OpenSpec.ofChange simpleTellsSpec)) simpleTellsCard

/-- THE TIED CARD OF 'waxworklaw06.SimpleParsed'. -/
def simpleParsedCard : Claim7 := { stood := { row := simpleParsedRow, standIns := [], harness := (true, "a09c62e6b43e2b4ee8b9da4e913f59c33e99b6cd9dc82f170383247612df9572"), looks := true }, kinds := [], alts := [], laidByText := true, laidKinds := [.data, .data, .data, .data, .sentinel, .sentinel, .pinned], laidTests := true, laidLooks := .later }
def SimpleParsedCardSaid : Prop := Claim7.holds Tryz.pinned (.plain (OpenSpec.ofChange simpleParsedSpec)) simpleParsedCard

/-- THE TIED CARD OF 'waxworklaw06.SimpleForm'. -/
def simpleFormCard : Claim7 := { stood := { row := simpleFormRow, standIns := [], harness := (true, "a09c62e6b43e2b4ee8b9da4e913f59c33e99b6cd9dc82f170383247612df9572"), looks := true }, kinds := [], alts := [], laidByText := true, laidKinds := [.data, .data, .data, .data, .sentinel, .sentinel, .pinned], laidTests := true, laidLooks := .later }
def SimpleFormCardSaid : Prop := Claim7.holds Tryz.pinned (.plain (OpenSpec.ofChange simpleFormSpec)) simpleFormCard

/-- THE TIED CARD OF 'waxworklaw06.SimpleTimes'. -/
def simpleTimesCard : Claim7 := { stood := { row := simpleTimesRow, standIns := [], harness := (true, "a09c62e6b43e2b4ee8b9da4e913f59c33e99b6cd9dc82f170383247612df9572"), looks := true }, kinds := [], alts := [], laidByText := true, laidKinds := [.data, .data, .data, .data, .sentinel, .sentinel, .pinned], laidTests := true, laidLooks := .later }
def SimpleTimesCardSaid : Prop := Claim7.holds Tryz.pinned (.plain (OpenSpec.ofChange simpleTimesSpec)) simpleTimesCard

/-- THE TIED CARD OF 'waxworklaw06.SimpleJoins'. -/
def simpleJoinsCard : Claim7 := { stood := { row := simpleJoinsRow, standIns := [], harness := (true, "a09c62e6b43e2b4ee8b9da4e913f59c33e99b6cd9dc82f170383247612df9572"), looks := true }, kinds := [], alts := [], laidByText := true, laidKinds := [.data, .data, .data, .data, .sentinel, .sentinel, .pinned], laidTests := true, laidLooks := .later }
def SimpleJoinsCardSaid : Prop := Claim7.holds Tryz.pinned (.plain (OpenSpec.ofChange simpleJoinsSpec)) simpleJoinsCard

/-- THE TIED CARD OF 'waxworklaw06.SimpleSame'. -/
def simpleSameCard : Claim7 := { stood := { row := simpleSameRow, standIns := [], harness := (true, "a09c62e6b43e2b4ee8b9da4e913f59c33e99b6cd9dc82f170383247612df9572"), looks := true }, kinds := [], alts := [], laidByText := true, laidKinds := [.data, .data, .data, .data, .sentinel, .sentinel, .pinned], laidTests := true, laidLooks := .later }
def SimpleSameCardSaid : Prop := Claim7.holds Tryz.pinned (.plain (OpenSpec.ofChange simpleSameSpec)) simpleSameCard

/-- THE TIED CARD OF 'waxworklaw06.SimpleBig'. -/
def simpleBigCard : Claim7 := { stood := { row := simpleBigRow, standIns := [], harness := (true, "a09c62e6b43e2b4ee8b9da4e913f59c33e99b6cd9dc82f170383247612df9572"), looks := true }, kinds := [], alts := [], laidByText := true, laidKinds := [.data, .data, .data, .data, .sentinel, .sentinel, .pinned], laidTests := true, laidLooks := .later }
def SimpleBigCardSaid : Prop := Claim7.holds Tryz.pinned (.plain (OpenSpec.ofChange simpleBigSpec)) simpleBigCard

/-- THE SECOND FORM's CARD OF 'waxworklaw05.SyntaxParses'. -/
def syntaxParsesUptoCard : Claim7 := { stood := { row := syntaxParsesUptoRow, standIns := [], harness := (true, "a09c62e6b43e2b4ee8b9da4e913f59c33e99b6cd9dc82f170383247612df9572"), looks := true }, kinds := [], alts := [], laidByText := true, laidKinds := [.data, .data, .data, .data, .sentinel, .sentinel, .pinned], laidTests := true, laidLooks := .later }
def SyntaxParsesUptoCardSaid : Prop := Claim7.holds Tryz.pinned (.plain (OpenSpec.upto syntaxParsesSpec)) syntaxParsesUptoCard

/-- THE SECOND FORM's CARD OF 'waxworklaw05.SyntaxTells'. -/
def syntaxTellsUptoCard : Claim7 := { stood := { row := syntaxTellsUptoRow, standIns := [], harness := (true, "a09c62e6b43e2b4ee8b9da4e913f59c33e99b6cd9dc82f170383247612df9572"), looks := true }, kinds := [], alts := [], laidByText := true, laidKinds := [.data, .data, .data, .data, .sentinel, .sentinel, .pinned], laidTests := true, laidLooks := .later }
def SyntaxTellsUptoCardSaid : Prop := Claim7.holds Tryz.pinned (.plain (OpenSpec.upto syntaxTellsSpec)) syntaxTellsUptoCard

/-- THE SECOND FORM's CARD OF 'waxworklaw06.SimpleTells'. -/
def simpleTellsUptoCard : Claim7 := { stood := { row := simpleTellsUptoRow, standIns := [], harness := (true, "a09c62e6b43e2b4ee8b9da4e913f59c33e99b6cd9dc82f170383247612df9572"), looks := true }, kinds := [], alts := [], laidByText := true, laidKinds := [.data, .data, .data, .data, .sentinel, .sentinel, .pinned], laidTests := true, laidLooks := .later }
def SimpleTellsUptoCardSaid : Prop := Claim7.holds Tryz.pinned (.plain (OpenSpec.upto simpleTellsSpec)) simpleTellsUptoCard

/-- THE SECOND FORM's CARD OF 'waxworklaw06.SimpleParsed'. -/
def simpleParsedUptoCard : Claim7 := { stood := { row := simpleParsedUptoRow, standIns := [], harness := (true, "a09c62e6b43e2b4ee8b9da4e913f59c33e99b6cd9dc82f170383247612df9572"), looks := true }, kinds := [], alts := [], laidByText := true, laidKinds := [.data, .data, .data, .data, .sentinel, .sentinel, .pinned], laidTests := true, laidLooks := .later }
def SimpleParsedUptoCardSaid : Prop := Claim7.holds Tryz.pinned (.plain (OpenSpec.upto simpleParsedSpec)) simpleParsedUptoCard

/-- THE SECOND FORM's CARD OF 'waxworklaw06.SimpleForm'. -/
def simpleFormUptoCard : Claim7 := { stood := { row := simpleFormUptoRow, standIns := [], harness := (true, "a09c62e6b43e2b4ee8b9da4e913f59c33e99b6cd9dc82f170383247612df9572"), looks := true }, kinds := [], alts := [], laidByText := true, laidKinds := [.data, .data, .data, .data, .sentinel, .sentinel, .pinned], laidTests := true, laidLooks := .later }
def SimpleFormUptoCardSaid : Prop := Claim7.holds Tryz.pinned (.plain (OpenSpec.upto simpleFormSpec)) simpleFormUptoCard

/-- THE SECOND FORM's CARD OF 'waxworklaw06.SimpleTimes'. -/
def simpleTimesUptoCard : Claim7 := { stood := { row := simpleTimesUptoRow, standIns := [], harness := (true, "a09c62e6b43e2b4ee8b9da4e913f59c33e99b6cd9dc82f170383247612df9572"), looks := true }, kinds := [], alts := [], laidByText := true, laidKinds := [.data, .data, .data, .data, .sentinel, .sentinel, .pinned], laidTests := true, laidLooks := .later }
def SimpleTimesUptoCardSaid : Prop := Claim7.holds Tryz.pinned (.plain (OpenSpec.upto simpleTimesSpec)) simpleTimesUptoCard

/-- THE SECOND FORM's CARD OF 'waxworklaw06.SimpleJoins'. -/
def simpleJoinsUptoCard : Claim7 := { stood := { row := simpleJoinsUptoRow, standIns := [], harness := (true, "a09c62e6b43e2b4ee8b9da4e913f59c33e99b6cd9dc82f170383247612df9572"), looks := true }, kinds := [], alts := [], laidByText := true, laidKinds := [.data, .data, .data, .data, .sentinel, .sentinel, .pinned], laidTests := true, laidLooks := .later }
def SimpleJoinsUptoCardSaid : Prop := Claim7.holds Tryz.pinned (.plain (OpenSpec.upto simpleJoinsSpec)) simpleJoinsUptoCard

/-- THE SECOND FORM's CARD OF 'waxworklaw06.SimpleSame'. -/
def simpleSameUptoCard : Claim7 := { stood := { row := simpleSameUptoRow, standIns := [], harness := (true, "a09c62e6b43e2b4ee8b9da4e913f59c33e99b6cd9dc82f170383247612df9572"), looks := true }, kinds := [], alts := [], laidByText := true, laidKinds := [.data, .data, .data, .data, .sentinel, .sentinel, .pinned], laidTests := true, laidLooks := .later }
def SimpleSameUptoCardSaid : Prop := Claim7.holds Tryz.pinned (.plain (OpenSpec.upto simpleSameSpec)) simpleSameUptoCard

/-- THE SECOND FORM's CARD OF 'waxworklaw06.SimpleBig'. -/
def simpleBigUptoCard : Claim7 := { stood := { row := simpleBigUptoRow, standIns := [], harness := (true, "a09c62e6b43e2b4ee8b9da4e913f59c33e99b6cd9dc82f170383247612df9572"), looks := true }, kinds := [], alts := [], laidByText := true, laidKinds := [.data, .data, .data, .data, .sentinel, .sentinel, .pinned], laidTests := true, laidLooks := .later }
def SimpleBigUptoCardSaid : Prop := Claim7.holds Tryz.pinned (.plain (OpenSpec.upto simpleBigSpec)) simpleBigUptoCard
end Rows
end Go.Proofs.YtdoapojmenojoaaGreatDoor
