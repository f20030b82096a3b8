/-
  DERIVED. GIVEN WITH THE SEED: THE CARDS: each row of YtakknkenanhjgaaDoorRows.lean that lists a variable, with what it lists TIED to the program's text (the seventh form; the later family's looks); each row that meets fmt, with fmt's text TOLD by the authors' own Lean function (tested against real Go, not proved from fmt's source: count such statements apart). THE CARD IS WHAT COUNTS. Prove the row's statement (the work); the ties are given (YtakknkenanhjgaaDoorTie.lean); close each card by the builder's one call (the guide's Derived/Test/ToyasCard.lean, 'card_holds'). Laid BY PROGRAM, IN A SANDBOX (cutbox-door.mjs). By AI agents, Wed Nov 11 2026. No macro, syntax, notation, axiom, sorry.
-/
import Derived.Test.YtakknkenanhjgaaDoorRows
import GoSem.ClaimSeven
namespace Go.Proofs.YtakknkenanhjgaaDoor
namespace Rows

/-- THE TIED CARD OF 'draymanlaw02.ScanForms'. -/
def scanFormsCard : Claim7 := { stood := { row := scanFormsRow, standIns := [], harness := (true, "6b2afe0eae0d2a700aaa460db48823a95946db2c21a1c03d39bf06791c200c3a"), looks := false }, kinds := [], alts := [], laidByText := true, laidKinds := [.data, .data, .data], laidTests := true, laidLooks := .later }
def ScanFormsCardSaid : Prop := Claim7.holds Tryd.pinned (.plain (OpenSpec.ofChange scanFormsSpec)) scanFormsCard

/-- THE TIED CARD OF 'draymanlaw02.ScanTells'. -/
def scanTellsCard : Claim7 := { stood := { row := scanTellsRow, standIns := [], harness := (true, "6b2afe0eae0d2a700aaa460db48823a95946db2c21a1c03d39bf06791c200c3a"), looks := false }, kinds := [], alts := [], laidByText := true, laidKinds := [.data, .data, .data], laidTests := true, laidLooks := .later }
def ScanTellsCardSaid : Prop := Claim7.holds Tryd.pinned (.plain (OpenSpec.ofChange scanTellsSpec)) scanTellsCard

/-- THE TIED CARD OF 'draymanlaw02.ScanBack'. -/
def scanBackCard : Claim7 := { stood := { row := scanBackRow, standIns := [], harness := (true, "6b2afe0eae0d2a700aaa460db48823a95946db2c21a1c03d39bf06791c200c3a"), looks := false }, kinds := [], alts := [], laidByText := true, laidKinds := [.data, .data, .data], laidTests := true, laidLooks := .later }
def ScanBackCardSaid : Prop := Claim7.holds Tryd.pinned (.plain (OpenSpec.ofChange scanBackSpec)) scanBackCard

/-- THE TIED CARD OF 'draymanlaw02.ScanDigits'. -/
def scanDigitsCard : Claim7 := { stood := { row := scanDigitsRow, standIns := [], harness := (true, "6b2afe0eae0d2a700aaa460db48823a95946db2c21a1c03d39bf06791c200c3a"), looks := false }, kinds := [], alts := [], laidByText := true, laidKinds := [.data, .data, .data], laidTests := true, laidLooks := .later }
def ScanDigitsCardSaid : Prop := Claim7.holds Tryd.pinned (.plain (OpenSpec.ofChange scanDigitsSpec)) scanDigitsCard

/-- THE SECOND FORM's CARD OF 'draymanlaw02.ScanForms'. -/
def scanFormsUptoCard : Claim7 := { stood := { row := scanFormsUptoRow, standIns := [], harness := (true, "6b2afe0eae0d2a700aaa460db48823a95946db2c21a1c03d39bf06791c200c3a"), looks := false }, kinds := [], alts := [], laidByText := true, laidKinds := [.data, .data, .data], laidTests := true, laidLooks := .later }
def ScanFormsUptoCardSaid : Prop := Claim7.holds Tryd.pinned (.plain (OpenSpec.upto scanFormsSpec)) scanFormsUptoCard

/-- THE SECOND FORM's CARD OF 'draymanlaw02.ScanTells'. -/
def scanTellsUptoCard : Claim7 := { stood := { row := scanTellsUptoRow, standIns := [], harness := (true, "6b2afe0eae0d2a700aaa460db48823a95946db2c21a1c03d39bf06791c200c3a"), looks := false }, kinds := [], alts := [], laidByText := true, laidKinds := [.data, .data, .data], laidTests := true, laidLooks := .later }
def ScanTellsUptoCardSaid : Prop := Claim7.holds Tryd.pinned (.plain (OpenSpec.upto scanTellsSpec)) scanTellsUptoCard

/-- THE SECOND FORM's CARD OF 'draymanlaw02.ScanBack'. -/
def scanBackUptoCard : Claim7 := { stood := { row := scanBackUptoRow, standIns := [], harness := (true, "6b2afe0eae0d2a700aaa460db48823a95946db2c21a1c03d39bf06791c200c3a"), looks := false }, kinds := [], alts := [], laidByText := true, laidKinds := [.data, .data, .data], laidTests := true, laidLooks := .later }
def ScanBackUptoCardSaid : Prop := Claim7.holds Tryd.pinned (.plain (OpenSpec.upto scanBackSpec)) scanBackUptoCard

/-- THE SECOND FORM's CARD OF 'draymanlaw02.ScanDigits'. -/
def scanDigitsUptoCard : Claim7 := { stood := { row := scanDigitsUptoRow, standIns := [], harness := (true, "6b2afe0eae0d2a700aaa460db48823a95946db2c21a1c03d39bf06791c200c3a"), looks := false }, kinds := [], alts := [], laidByText := true, laidKinds := [.data, .data, .data], laidTests := true, laidLooks := .later }
def ScanDigitsUptoCardSaid : Prop := Claim7.holds Tryd.pinned (.plain (OpenSpec.upto scanDigitsSpec)) scanDigitsUptoCard
end Rows
end Go.Proofs.YtakknkenanhjgaaDoor
