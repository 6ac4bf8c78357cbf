/-
  DERIVED. GIVEN WITH THE SEED: THE CARDS: each row of YteiaolejoangnaaDoorRows.lean that lists a variable, with what it lists TIED to the program's text (the seventh form; the later family's looks); each row that meets fmt, with fmt's text TOLD by the authors' own Lean function (tested against real Go, not proved from fmt's source: count such statements apart). THE CARD IS WHAT COUNTS. Prove the row's statement (the work); the ties are given (YteiaolejoangnaaDoorTie.lean); close each card by the builder's one call (the guide's Derived/Test/ToyasCard.lean, 'card_holds'). Laid BY PROGRAM, IN A SANDBOX (cutbox-door.mjs). By AI agents, Wed Nov 11 2026. No macro, syntax, notation, axiom, sorry.
-/
import Derived.Test.YteiaolejoangnaaDoorRows
import GoSem.ClaimSeven
namespace Go.Proofs.YteiaolejoangnaaDoor
namespace Rows

/-- THE TIED CARD OF 'quillworklaw02.TagsTell'. -/
def tagsTellCard : Claim7 := { stood := { row := tagsTellRow, standIns := [], harness := (true, "a8e188f320dacd1b08b13969925d19ec5ea496c1f6117ebb2b64f3efebb86e5e"), looks := false }, kinds := [], alts := [], laidByText := true, laidKinds := [.data], laidTests := true, laidLooks := .later }
def TagsTellCardSaid : Prop := Claim7.holds Tryd.pinned (.plain (OpenSpec.ofChange tagsTellSpec)) tagsTellCard

/-- THE TIED CARD OF 'quillworklaw02.TagsFind'. -/
def tagsFindCard : Claim7 := { stood := { row := tagsFindRow, standIns := [], harness := (true, "a8e188f320dacd1b08b13969925d19ec5ea496c1f6117ebb2b64f3efebb86e5e"), looks := false }, kinds := [], alts := [], laidByText := true, laidKinds := [.data], laidTests := true, laidLooks := .later }
def TagsFindCardSaid : Prop := Claim7.holds Tryd.pinned (.plain (OpenSpec.ofChange tagsFindSpec)) tagsFindCard

/-- THE TIED CARD OF 'quillworklaw02.TagsMay'. -/
def tagsMayCard : Claim7 := { stood := { row := tagsMayRow, standIns := [], harness := (true, "a8e188f320dacd1b08b13969925d19ec5ea496c1f6117ebb2b64f3efebb86e5e"), looks := false }, kinds := [], alts := [], laidByText := true, laidKinds := [.data], laidTests := true, laidLooks := .later }
def TagsMayCardSaid : Prop := Claim7.holds Tryd.pinned (.plain (OpenSpec.ofChange tagsMaySpec)) tagsMayCard

/-- THE TIED CARD OF 'quillworklaw02.TagsOf'. -/
def tagsOfCard : Claim7 := { stood := { row := tagsOfRow, standIns := [], harness := (true, "a8e188f320dacd1b08b13969925d19ec5ea496c1f6117ebb2b64f3efebb86e5e"), looks := false }, kinds := [], alts := [], laidByText := true, laidKinds := [.data], laidTests := true, laidLooks := .later }
def TagsOfCardSaid : Prop := Claim7.holds Tryd.pinned (.plain (OpenSpec.ofChange tagsOfSpec)) tagsOfCard

/-- THE TIED CARD OF 'quillworklaw02.TagsNames'. -/
def tagsNamesCard : Claim7 := { stood := { row := tagsNamesRow, standIns := [], harness := (true, "a8e188f320dacd1b08b13969925d19ec5ea496c1f6117ebb2b64f3efebb86e5e"), looks := false }, kinds := [], alts := [], laidByText := true, laidKinds := [.data], laidTests := true, laidLooks := .later }
def TagsNamesCardSaid : Prop := Claim7.holds Tryd.pinned (.plain (OpenSpec.ofChange tagsNamesSpec)) tagsNamesCard

/-- THE TIED CARD OF 'quillworklaw02.TagsContent'. -/
def tagsContentCard : Claim7 := { stood := { row := tagsContentRow, standIns := [], harness := (true, "a8e188f320dacd1b08b13969925d19ec5ea496c1f6117ebb2b64f3efebb86e5e"), looks := false }, kinds := [], alts := [], laidByText := true, laidKinds := [.data], laidTests := true, laidLooks := .later }
def TagsContentCardSaid : Prop := Claim7.holds Tryd.pinned (.plain (OpenSpec.ofChange tagsContentSpec)) tagsContentCard

/-- THE SECOND FORM's CARD OF 'quillworklaw02.TagsTell'. -/
def tagsTellUptoCard : Claim7 := { stood := { row := tagsTellUptoRow, standIns := [], harness := (true, "a8e188f320dacd1b08b13969925d19ec5ea496c1f6117ebb2b64f3efebb86e5e"), looks := false }, kinds := [], alts := [], laidByText := true, laidKinds := [.data], laidTests := true, laidLooks := .later }
def TagsTellUptoCardSaid : Prop := Claim7.holds Tryd.pinned (.plain (OpenSpec.upto tagsTellSpec)) tagsTellUptoCard

/-- THE SECOND FORM's CARD OF 'quillworklaw02.TagsFind'. -/
def tagsFindUptoCard : Claim7 := { stood := { row := tagsFindUptoRow, standIns := [], harness := (true, "a8e188f320dacd1b08b13969925d19ec5ea496c1f6117ebb2b64f3efebb86e5e"), looks := false }, kinds := [], alts := [], laidByText := true, laidKinds := [.data], laidTests := true, laidLooks := .later }
def TagsFindUptoCardSaid : Prop := Claim7.holds Tryd.pinned (.plain (OpenSpec.upto tagsFindSpec)) tagsFindUptoCard

/-- THE SECOND FORM's CARD OF 'quillworklaw02.TagsMay'. -/
def tagsMayUptoCard : Claim7 := { stood := { row := tagsMayUptoRow, standIns := [], harness := (true, "a8e188f320dacd1b08b13969925d19ec5ea496c1f6117ebb2b64f3efebb86e5e"), looks := false }, kinds := [], alts := [], laidByText := true, laidKinds := [.data], laidTests := true, laidLooks := .later }
def TagsMayUptoCardSaid : Prop := Claim7.holds Tryd.pinned (.plain (OpenSpec.upto tagsMaySpec)) tagsMayUptoCard

/-- THE SECOND FORM's CARD OF 'quillworklaw02.TagsOf'. -/
def tagsOfUptoCard : Claim7 := { stood := { row := tagsOfUptoRow, standIns := [], harness := (true, "a8e188f320dacd1b08b13969925d19ec5ea496c1f6117ebb2b64f3efebb86e5e"), looks := false }, kinds := [], alts := [], laidByText := true, laidKinds := [.data], laidTests := true, laidLooks := .later }
def TagsOfUptoCardSaid : Prop := Claim7.holds Tryd.pinned (.plain (OpenSpec.upto tagsOfSpec)) tagsOfUptoCard

/-- THE SECOND FORM's CARD OF 'quillworklaw02.TagsNames'. -/
def tagsNamesUptoCard : Claim7 := { stood := { row := tagsNamesUptoRow, standIns := [], harness := (true, "a8e188f320dacd1b08b13969925d19ec5ea496c1f6117ebb2b64f3efebb86e5e"), looks := false }, kinds := [], alts := [], laidByText := true, laidKinds := [.data], laidTests := true, laidLooks := .later }
def TagsNamesUptoCardSaid : Prop := Claim7.holds Tryd.pinned (.plain (OpenSpec.upto tagsNamesSpec)) tagsNamesUptoCard

/-- THE SECOND FORM's CARD OF 'quillworklaw02.TagsContent'. -/
def tagsContentUptoCard : Claim7 := { stood := { row := tagsContentUptoRow, standIns := [], harness := (true, "a8e188f320dacd1b08b13969925d19ec5ea496c1f6117ebb2b64f3efebb86e5e"), looks := false }, kinds := [], alts := [], laidByText := true, laidKinds := [.data], laidTests := true, laidLooks := .later }
def TagsContentUptoCardSaid : Prop := Claim7.holds Tryd.pinned (.plain (OpenSpec.upto tagsContentSpec)) tagsContentUptoCard
end Rows
end Go.Proofs.YteiaolejoangnaaDoor
