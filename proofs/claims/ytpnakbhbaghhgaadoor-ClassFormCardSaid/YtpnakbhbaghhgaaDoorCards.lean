/-
  DERIVED. GIVEN WITH THE SEED: THE CARDS: each row of YtpnakbhbaghhgaaDoorRows.lean that lists a variable, with what it lists TIED to the program's text (the seventh form; the later family's looks); each row that meets fmt, with fmt's text TOLD by the authors' own Lean function (tested against real Go, not proved from fmt's source: count such statements apart). THE CARD IS WHAT COUNTS. Prove the row's statement (the work); the ties are given (YtpnakbhbaghhgaaDoorTie.lean); close each card by the builder's one call (the guide's Derived/Test/ToyasCard.lean, 'card_holds'). Laid BY PROGRAM, IN A SANDBOX (cutbox-door.mjs). By AI agents, Wed Nov 11 2026. No macro, syntax, notation, axiom, sorry.
-/
import Derived.Test.YtpnakbhbaghhgaaDoorRows
import GoSem.ClaimSeven
namespace Go.Proofs.YtpnakbhbaghhgaaDoor
namespace Rows

/-- THE TIED CARD OF 'waxworklaw04.ClassTells'. -/
def classTellsCard : Claim7 := { stood := { row := classTellsRow, standIns := [], harness := (true, "36a7f0720b4f71af22a445f8375293b1f76c977f759446203a3973b10505d7d7"), looks := false }, kinds := [], alts := [], laidByText := true, laidKinds := [.data, .data, .data], laidTests := true, laidLooks := .later }
def ClassTellsCardSaid : Prop := Claim7.holds Tryd.pinned (.plain (OpenSpec.ofChange classTellsSpec)) classTellsCard

/-- THE TIED CARD OF 'waxworklaw04.ClassLaws'. -/
def classLawsCard : Claim7 := { stood := { row := classLawsRow, standIns := [], harness := (true, "36a7f0720b4f71af22a445f8375293b1f76c977f759446203a3973b10505d7d7"), looks := false }, kinds := [], alts := [], laidByText := true, laidKinds := [.data, .data, .data], laidTests := true, laidLooks := .later }
def ClassLawsCardSaid : Prop := Claim7.holds Tryd.pinned (.plain (OpenSpec.ofChange classLawsSpec)) classLawsCard

/-- THE TIED CARD OF 'waxworklaw04.ClassForm'. -/
def classFormCard : Claim7 := { stood := { row := classFormRow, standIns := [], harness := (true, "36a7f0720b4f71af22a445f8375293b1f76c977f759446203a3973b10505d7d7"), looks := false }, kinds := [], alts := [], laidByText := true, laidKinds := [.data, .data, .data], laidTests := true, laidLooks := .later }
def ClassFormCardSaid : Prop := Claim7.holds Tryd.pinned (.plain (OpenSpec.ofChange classFormSpec)) classFormCard

/-- THE TIED CARD OF 'waxworklaw04.ClassPuts'. -/
def classPutsCard : Claim7 := { stood := { row := classPutsRow, standIns := [], harness := (true, "36a7f0720b4f71af22a445f8375293b1f76c977f759446203a3973b10505d7d7"), looks := false }, kinds := [], alts := [], laidByText := true, laidKinds := [.data, .data, .data], laidTests := true, laidLooks := .later }
def ClassPutsCardSaid : Prop := Claim7.holds Tryd.pinned (.plain (OpenSpec.ofChange classPutsSpec)) classPutsCard

/-- THE TIED CARD OF 'waxworklaw04.ClassMany'. -/
def classManyCard : Claim7 := { stood := { row := classManyRow, standIns := [], harness := (true, "36a7f0720b4f71af22a445f8375293b1f76c977f759446203a3973b10505d7d7"), looks := false }, kinds := [], alts := [], laidByText := true, laidKinds := [.data, .data, .data], laidTests := true, laidLooks := .later }
def ClassManyCardSaid : Prop := Claim7.holds Tryd.pinned (.plain (OpenSpec.ofChange classManySpec)) classManyCard

/-- THE SECOND FORM's CARD OF 'waxworklaw04.ClassTells'. -/
def classTellsUptoCard : Claim7 := { stood := { row := classTellsUptoRow, standIns := [], harness := (true, "36a7f0720b4f71af22a445f8375293b1f76c977f759446203a3973b10505d7d7"), looks := false }, kinds := [], alts := [], laidByText := true, laidKinds := [.data, .data, .data], laidTests := true, laidLooks := .later }
def ClassTellsUptoCardSaid : Prop := Claim7.holds Tryd.pinned (.plain (OpenSpec.upto classTellsSpec)) classTellsUptoCard

/-- THE SECOND FORM's CARD OF 'waxworklaw04.ClassLaws'. -/
def classLawsUptoCard : Claim7 := { stood := { row := classLawsUptoRow, standIns := [], harness := (true, "36a7f0720b4f71af22a445f8375293b1f76c977f759446203a3973b10505d7d7"), looks := false }, kinds := [], alts := [], laidByText := true, laidKinds := [.data, .data, .data], laidTests := true, laidLooks := .later }
def ClassLawsUptoCardSaid : Prop := Claim7.holds Tryd.pinned (.plain (OpenSpec.upto classLawsSpec)) classLawsUptoCard

/-- THE SECOND FORM's CARD OF 'waxworklaw04.ClassForm'. -/
def classFormUptoCard : Claim7 := { stood := { row := classFormUptoRow, standIns := [], harness := (true, "36a7f0720b4f71af22a445f8375293b1f76c977f759446203a3973b10505d7d7"), looks := false }, kinds := [], alts := [], laidByText := true, laidKinds := [.data, .data, .data], laidTests := true, laidLooks := .later }
def ClassFormUptoCardSaid : Prop := Claim7.holds Tryd.pinned (.plain (OpenSpec.upto classFormSpec)) classFormUptoCard

/-- THE SECOND FORM's CARD OF 'waxworklaw04.ClassPuts'. -/
def classPutsUptoCard : Claim7 := { stood := { row := classPutsUptoRow, standIns := [], harness := (true, "36a7f0720b4f71af22a445f8375293b1f76c977f759446203a3973b10505d7d7"), looks := false }, kinds := [], alts := [], laidByText := true, laidKinds := [.data, .data, .data], laidTests := true, laidLooks := .later }
def ClassPutsUptoCardSaid : Prop := Claim7.holds Tryd.pinned (.plain (OpenSpec.upto classPutsSpec)) classPutsUptoCard

/-- THE SECOND FORM's CARD OF 'waxworklaw04.ClassMany'. -/
def classManyUptoCard : Claim7 := { stood := { row := classManyUptoRow, standIns := [], harness := (true, "36a7f0720b4f71af22a445f8375293b1f76c977f759446203a3973b10505d7d7"), looks := false }, kinds := [], alts := [], laidByText := true, laidKinds := [.data, .data, .data], laidTests := true, laidLooks := .later }
def ClassManyUptoCardSaid : Prop := Claim7.holds Tryd.pinned (.plain (OpenSpec.upto classManySpec)) classManyUptoCard
end Rows
end Go.Proofs.YtpnakbhbaghhgaaDoor
