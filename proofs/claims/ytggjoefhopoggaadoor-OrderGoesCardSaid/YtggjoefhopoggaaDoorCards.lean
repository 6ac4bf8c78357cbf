/-
  DERIVED. GIVEN WITH THE SEED: THE CARDS: each row of YtggjoefhopoggaaDoorRows.lean that lists a variable, with what it lists TIED to the program's text (the seventh form; the later family's looks); each row that meets fmt, with fmt's text TOLD by the authors' own Lean function (tested against real Go, not proved from fmt's source: count such statements apart). THE CARD IS WHAT COUNTS. Prove the row's statement (the work); the ties are given (YtggjoefhopoggaaDoorTie.lean); close each card by the builder's one call (the guide's Derived/Test/ToyasCard.lean, 'card_holds'). Laid BY PROGRAM, IN A SANDBOX (cutbox-door.mjs). By AI agents, Wed Nov 11 2026. No macro, syntax, notation, axiom, sorry.
-/
import Derived.Test.YtggjoefhopoggaaDoorRows
import GoSem.ClaimSeven
namespace Go.Proofs.YtggjoefhopoggaaDoor
namespace Rows

/-- THE TIED CARD OF 'quillworklaw09.OrderNobody'. -/
def orderNobodyCard : Claim7 := { stood := { row := orderNobodyRow, standIns := [], harness := (true, "93885984a8a43eb8ddcdeb2ba1ae1d3ed57758c7f61765dc986f034cb8157477"), looks := false }, kinds := [], alts := [], laidByText := true, laidKinds := [.data], laidTests := true, laidLooks := .later }
def OrderNobodyCardSaid : Prop := Claim7.holds Tryd.pinned (.plain (OpenSpec.ofChange orderNobodySpec)) orderNobodyCard

/-- THE TIED CARD OF 'quillworklaw09.OrderTotal'. -/
def orderTotalCard : Claim7 := { stood := { row := orderTotalRow, standIns := [], harness := (true, "93885984a8a43eb8ddcdeb2ba1ae1d3ed57758c7f61765dc986f034cb8157477"), looks := false }, kinds := [], alts := [], laidByText := true, laidKinds := [.data], laidTests := true, laidLooks := .later }
def OrderTotalCardSaid : Prop := Claim7.holds Tryd.pinned (.plain (OpenSpec.ofChange orderTotalSpec)) orderTotalCard

/-- THE TIED CARD OF 'quillworklaw09.OrderGoes'. -/
def orderGoesCard : Claim7 := { stood := { row := orderGoesRow, standIns := [], harness := (true, "93885984a8a43eb8ddcdeb2ba1ae1d3ed57758c7f61765dc986f034cb8157477"), looks := false }, kinds := [], alts := [], laidByText := true, laidKinds := [.data], laidTests := true, laidLooks := .later }
def OrderGoesCardSaid : Prop := Claim7.holds Tryd.pinned (.plain (OpenSpec.ofChange orderGoesSpec)) orderGoesCard

/-- THE TIED CARD OF 'quillworklaw09.OrderBack'. -/
def orderBackCard : Claim7 := { stood := { row := orderBackRow, standIns := [], harness := (true, "93885984a8a43eb8ddcdeb2ba1ae1d3ed57758c7f61765dc986f034cb8157477"), looks := false }, kinds := [], alts := [], laidByText := true, laidKinds := [.data], laidTests := true, laidLooks := .later }
def OrderBackCardSaid : Prop := Claim7.holds Tryd.pinned (.plain (OpenSpec.ofChange orderBackSpec)) orderBackCard

/-- THE SECOND FORM's CARD OF 'quillworklaw09.OrderNobody'. -/
def orderNobodyUptoCard : Claim7 := { stood := { row := orderNobodyUptoRow, standIns := [], harness := (true, "93885984a8a43eb8ddcdeb2ba1ae1d3ed57758c7f61765dc986f034cb8157477"), looks := false }, kinds := [], alts := [], laidByText := true, laidKinds := [.data], laidTests := true, laidLooks := .later }
def OrderNobodyUptoCardSaid : Prop := Claim7.holds Tryd.pinned (.plain (OpenSpec.upto orderNobodySpec)) orderNobodyUptoCard

/-- THE SECOND FORM's CARD OF 'quillworklaw09.OrderTotal'. -/
def orderTotalUptoCard : Claim7 := { stood := { row := orderTotalUptoRow, standIns := [], harness := (true, "93885984a8a43eb8ddcdeb2ba1ae1d3ed57758c7f61765dc986f034cb8157477"), looks := false }, kinds := [], alts := [], laidByText := true, laidKinds := [.data], laidTests := true, laidLooks := .later }
def OrderTotalUptoCardSaid : Prop := Claim7.holds Tryd.pinned (.plain (OpenSpec.upto orderTotalSpec)) orderTotalUptoCard

/-- THE SECOND FORM's CARD OF 'quillworklaw09.OrderGoes'. -/
def orderGoesUptoCard : Claim7 := { stood := { row := orderGoesUptoRow, standIns := [], harness := (true, "93885984a8a43eb8ddcdeb2ba1ae1d3ed57758c7f61765dc986f034cb8157477"), looks := false }, kinds := [], alts := [], laidByText := true, laidKinds := [.data], laidTests := true, laidLooks := .later }
def OrderGoesUptoCardSaid : Prop := Claim7.holds Tryd.pinned (.plain (OpenSpec.upto orderGoesSpec)) orderGoesUptoCard

/-- THE SECOND FORM's CARD OF 'quillworklaw09.OrderBack'. -/
def orderBackUptoCard : Claim7 := { stood := { row := orderBackUptoRow, standIns := [], harness := (true, "93885984a8a43eb8ddcdeb2ba1ae1d3ed57758c7f61765dc986f034cb8157477"), looks := false }, kinds := [], alts := [], laidByText := true, laidKinds := [.data], laidTests := true, laidLooks := .later }
def OrderBackUptoCardSaid : Prop := Claim7.holds Tryd.pinned (.plain (OpenSpec.upto orderBackSpec)) orderBackUptoCard
end Rows
end Go.Proofs.YtggjoefhopoggaaDoor
