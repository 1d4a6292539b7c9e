/-
  DERIVED. GIVEN WITH THE SEED: THE CARDS: each row of YtgjbebfcbpfngaaDoorRows.lean that lists a variable, with what it lists TIED to the program's text (the seventh form; the later family's looks); each row that meets fmt, with fmt's text TOLD by the authors' own Lean function (tested against real Go, not proved from fmt's source: count such statements apart). THE CARD IS WHAT COUNTS. Prove the row's statement (the work); the ties are given (YtgjbebfcbpfngaaDoorTie.lean); close each card by the builder's one call (the guide's Derived/Test/ToyasCard.lean, 'card_holds'). Laid BY PROGRAM, IN A SANDBOX (cutbox-door.mjs). By AI agents, Wed Nov 11 2026. No macro, syntax, notation, axiom, sorry.
-/
import Derived.Test.YtgjbebfcbpfngaaDoorRows
import GoSem.ClaimSeven
namespace Go.Proofs.YtgjbebfcbpfngaaDoor
namespace Rows

/-- THE TIED CARD OF 'laws.FnWire'. -/
def fnWireCard : Claim7 := { stood := { row := fnWireRow, standIns := [], harness := (true, "deae2e7abdfd6784a1fe9ad8db39c88f02ddd34d0aa759db843d15582834d2b4"), looks := true }, kinds := [], alts := [], laidByText := true, laidKinds := [.handle, .sentinel, .sentinel, .sentinel, .sentinel], laidTests := true, laidLooks := .later }
def FnWireCardSaid : Prop := Claim7.holds Tryd.pinned (.plain (OpenSpec.ofChange fnWireSpec)) fnWireCard

/-- THE TIED CARD OF 'laws.FnWireBack'. -/
def fnWireBackCard : Claim7 := { stood := { row := fnWireBackRow, standIns := [], harness := (true, "deae2e7abdfd6784a1fe9ad8db39c88f02ddd34d0aa759db843d15582834d2b4"), looks := true }, kinds := [], alts := [], laidByText := true, laidKinds := [.handle, .sentinel, .sentinel, .sentinel, .sentinel], laidTests := true, laidLooks := .later }
def FnWireBackCardSaid : Prop := Claim7.holds Tryd.pinned (.plain (OpenSpec.ofChange fnWireBackSpec)) fnWireBackCard

/-- THE TIED CARD OF 'laws.FnExactReadNote'. -/
def fnExactReadNoteCard : Claim7 := { stood := { row := fnExactReadNoteRow, standIns := [], harness := (true, "deae2e7abdfd6784a1fe9ad8db39c88f02ddd34d0aa759db843d15582834d2b4"), looks := true }, kinds := [], alts := [], laidByText := true, laidKinds := [.handle, .sentinel, .sentinel, .sentinel, .sentinel], laidTests := true, laidLooks := .later }
def FnExactReadNoteCardSaid : Prop := Claim7.holds Tryd.pinned (.plain (OpenSpec.ofChange fnExactReadNoteSpec)) fnExactReadNoteCard

/-- THE SECOND FORM's CARD OF 'laws.FnWire'. -/
def fnWireUptoCard : Claim7 := { stood := { row := fnWireUptoRow, standIns := [], harness := (true, "deae2e7abdfd6784a1fe9ad8db39c88f02ddd34d0aa759db843d15582834d2b4"), looks := true }, kinds := [], alts := [], laidByText := true, laidKinds := [.handle, .sentinel, .sentinel, .sentinel, .sentinel], laidTests := true, laidLooks := .later }
def FnWireUptoCardSaid : Prop := Claim7.holds Tryd.pinned (.plain (OpenSpec.upto fnWireSpec)) fnWireUptoCard

/-- THE SECOND FORM's CARD OF 'laws.FnWireBack'. -/
def fnWireBackUptoCard : Claim7 := { stood := { row := fnWireBackUptoRow, standIns := [], harness := (true, "deae2e7abdfd6784a1fe9ad8db39c88f02ddd34d0aa759db843d15582834d2b4"), looks := true }, kinds := [], alts := [], laidByText := true, laidKinds := [.handle, .sentinel, .sentinel, .sentinel, .sentinel], laidTests := true, laidLooks := .later }
def FnWireBackUptoCardSaid : Prop := Claim7.holds Tryd.pinned (.plain (OpenSpec.upto fnWireBackSpec)) fnWireBackUptoCard

/-- THE SECOND FORM's CARD OF 'laws.FnExactReadNote'. -/
def fnExactReadNoteUptoCard : Claim7 := { stood := { row := fnExactReadNoteUptoRow, standIns := [], harness := (true, "deae2e7abdfd6784a1fe9ad8db39c88f02ddd34d0aa759db843d15582834d2b4"), looks := true }, kinds := [], alts := [], laidByText := true, laidKinds := [.handle, .sentinel, .sentinel, .sentinel, .sentinel], laidTests := true, laidLooks := .later }
def FnExactReadNoteUptoCardSaid : Prop := Claim7.holds Tryd.pinned (.plain (OpenSpec.upto fnExactReadNoteSpec)) fnExactReadNoteUptoCard
end Rows
end Go.Proofs.YtgjbebfcbpfngaaDoor
