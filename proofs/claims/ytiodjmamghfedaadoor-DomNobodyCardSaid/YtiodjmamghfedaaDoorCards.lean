/-
  DERIVED. GIVEN WITH THE SEED: THE CARDS: each row of YtiodjmamghfedaaDoorRows.lean that lists a variable, with what it lists TIED to the program's text (the seventh form; the later family's looks); each row that meets fmt, with fmt's text TOLD by the authors' own Lean function (tested against real Go, not proved from fmt's source: count such statements apart). THE CARD IS WHAT COUNTS. Prove the row's statement (the work); the ties are given (YtiodjmamghfedaaDoorTie.lean); close each card by the builder's one call (the guide's Derived/Test/ToyasCard.lean, 'card_holds'). Laid BY PROGRAM, IN A SANDBOX (cutbox-door.mjs). By AI agents, Wed Nov 11 2026. No macro, syntax, notation, axiom, sorry.
-/
import Derived.Test.YtiodjmamghfedaaDoorRows
import GoSem.ClaimSeven
namespace Go.Proofs.YtiodjmamghfedaaDoor
namespace Rows

/-- THE TIED CARD OF 'quillworklaw08.DomNobody'. -/
def domNobodyCard : Claim7 := { stood := { row := domNobodyRow, standIns := [], harness := (true, "5082b9ec3509a71cf5c4ddb52fb69dde3913e47d489afadd45444742b9b49c8a"), looks := false }, kinds := [], alts := [], laidByText := true, laidKinds := [.data], laidTests := true, laidLooks := .later }
def DomNobodyCardSaid : Prop := Claim7.holds Tryd.pinned (.plain (OpenSpec.ofChange domNobodySpec)) domNobodyCard

/-- THE SECOND FORM's CARD OF 'quillworklaw08.DomNobody'. -/
def domNobodyUptoCard : Claim7 := { stood := { row := domNobodyUptoRow, standIns := [], harness := (true, "5082b9ec3509a71cf5c4ddb52fb69dde3913e47d489afadd45444742b9b49c8a"), looks := false }, kinds := [], alts := [], laidByText := true, laidKinds := [.data], laidTests := true, laidLooks := .later }
def DomNobodyUptoCardSaid : Prop := Claim7.holds Tryd.pinned (.plain (OpenSpec.upto domNobodySpec)) domNobodyUptoCard
end Rows
end Go.Proofs.YtiodjmamghfedaaDoor
