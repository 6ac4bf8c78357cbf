/-
  DERIVED. GIVEN WITH THE SEED: THE CARDS: each row of YtiaoflagjaclmaaDoorRows.lean that lists a variable, with what it lists TIED to the program's text (the seventh form; the later family's looks); each row that meets fmt, with fmt's text TOLD by the authors' own Lean function (tested against real Go, not proved from fmt's source: count such statements apart). THE CARD IS WHAT COUNTS. Prove the row's statement (the work); the ties are given (YtiaoflagjaclmaaDoorTie.lean); close each card by the builder's one call (the guide's Derived/Test/ToyasCard.lean, 'card_holds'). Laid BY PROGRAM, IN A SANDBOX (cutbox-door.mjs). By AI agents, Wed Nov 11 2026. No macro, syntax, notation, axiom, sorry.
-/
import Derived.Test.YtiaoflagjaclmaaDoorRows
import GoSem.ClaimSeven
namespace Go.Proofs.YtiaoflagjaclmaaDoor
namespace Rows

/-- THE TIED CARD OF 'quillworklaw05.CellsMay'. -/
def cellsMayCard : Claim7 := { stood := { row := cellsMayRow, standIns := [], harness := (true, "e9450227288b4ebaf08c27bf568254ad26ac6f6788528819e7167231fdfdf724"), looks := false }, kinds := [], alts := [], laidByText := true, laidKinds := [.data, .pinned], laidTests := true, laidLooks := .later }
def CellsMayCardSaid : Prop := Claim7.holds Tryd.pinned (.plain (OpenSpec.ofChange cellsMaySpec)) cellsMayCard

/-- THE TIED CARD OF 'quillworklaw05.CellsSets'. -/
def cellsSetsCard : Claim7 := { stood := { row := cellsSetsRow, standIns := [], harness := (true, "e9450227288b4ebaf08c27bf568254ad26ac6f6788528819e7167231fdfdf724"), looks := false }, kinds := [], alts := [], laidByText := true, laidKinds := [.data, .pinned], laidTests := true, laidLooks := .later }
def CellsSetsCardSaid : Prop := Claim7.holds Tryd.pinned (.plain (OpenSpec.ofChange cellsSetsSpec)) cellsSetsCard

/-- THE TIED CARD OF 'quillworklaw05.CellsStyles'. -/
def cellsStylesCard : Claim7 := { stood := { row := cellsStylesRow, standIns := [], harness := (true, "e9450227288b4ebaf08c27bf568254ad26ac6f6788528819e7167231fdfdf724"), looks := false }, kinds := [], alts := [], laidByText := true, laidKinds := [.data, .pinned], laidTests := true, laidLooks := .later }
def CellsStylesCardSaid : Prop := Claim7.holds Tryd.pinned (.plain (OpenSpec.ofChange cellsStylesSpec)) cellsStylesCard

/-- THE SECOND FORM's CARD OF 'quillworklaw05.CellsMay'. -/
def cellsMayUptoCard : Claim7 := { stood := { row := cellsMayUptoRow, standIns := [], harness := (true, "e9450227288b4ebaf08c27bf568254ad26ac6f6788528819e7167231fdfdf724"), looks := false }, kinds := [], alts := [], laidByText := true, laidKinds := [.data, .pinned], laidTests := true, laidLooks := .later }
def CellsMayUptoCardSaid : Prop := Claim7.holds Tryd.pinned (.plain (OpenSpec.upto cellsMaySpec)) cellsMayUptoCard

/-- THE SECOND FORM's CARD OF 'quillworklaw05.CellsSets'. -/
def cellsSetsUptoCard : Claim7 := { stood := { row := cellsSetsUptoRow, standIns := [], harness := (true, "e9450227288b4ebaf08c27bf568254ad26ac6f6788528819e7167231fdfdf724"), looks := false }, kinds := [], alts := [], laidByText := true, laidKinds := [.data, .pinned], laidTests := true, laidLooks := .later }
def CellsSetsUptoCardSaid : Prop := Claim7.holds Tryd.pinned (.plain (OpenSpec.upto cellsSetsSpec)) cellsSetsUptoCard

/-- THE SECOND FORM's CARD OF 'quillworklaw05.CellsStyles'. -/
def cellsStylesUptoCard : Claim7 := { stood := { row := cellsStylesUptoRow, standIns := [], harness := (true, "e9450227288b4ebaf08c27bf568254ad26ac6f6788528819e7167231fdfdf724"), looks := false }, kinds := [], alts := [], laidByText := true, laidKinds := [.data, .pinned], laidTests := true, laidLooks := .later }
def CellsStylesUptoCardSaid : Prop := Claim7.holds Tryd.pinned (.plain (OpenSpec.upto cellsStylesSpec)) cellsStylesUptoCard
end Rows
end Go.Proofs.YtiaoflagjaclmaaDoor
