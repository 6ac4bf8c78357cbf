/-
  DERIVED. GIVEN WITH THE SEED: THE CARDS: each row of YtdegkcibadjogaaDoorRows.lean that lists a variable, with what it lists TIED to the program's text (the seventh form; the later family's looks); each row that meets fmt, with fmt's text TOLD by the authors' own Lean function (tested against real Go, not proved from fmt's source: count such statements apart). THE CARD IS WHAT COUNTS. Prove the row's statement (the work); the ties are given (YtdegkcibadjogaaDoorTie.lean); close each card by the builder's one call (the guide's Derived/Test/ToyasCard.lean, 'card_holds'). Laid BY PROGRAM, IN A SANDBOX (cutbox-door.mjs). By AI agents, Wed Nov 11 2026. No macro, syntax, notation, axiom, sorry.
-/
import Derived.Test.YtdegkcibadjogaaDoorRows
import GoSem.ClaimSeven
namespace Go.Proofs.YtdegkcibadjogaaDoor
namespace Rows

/-- THE TIED CARD OF 'quillworklaw08.DomPlays'. -/
def domPlaysCard : Claim7 := { stood := { row := domPlaysRow, standIns := [], harness := (true, "298b3222f7b0c1da7d31dd216d4f85638a0c269ca0a176a008fc12b304021f49"), looks := false }, kinds := [], alts := [], laidByText := true, laidKinds := [.data], laidTests := true, laidLooks := .later }
def DomPlaysCardSaid : Prop := Claim7.holds Tryd.pinned (.plain (OpenSpec.ofChange domPlaysSpec)) domPlaysCard

/-- THE TIED CARD OF 'quillworklaw08.DomSound'. -/
def domSoundCard : Claim7 := { stood := { row := domSoundRow, standIns := [], harness := (true, "298b3222f7b0c1da7d31dd216d4f85638a0c269ca0a176a008fc12b304021f49"), looks := false }, kinds := [], alts := [], laidByText := true, laidKinds := [.data], laidTests := true, laidLooks := .later }
def DomSoundCardSaid : Prop := Claim7.holds Tryd.pinned (.plain (OpenSpec.ofChange domSoundSpec)) domSoundCard

/-- THE TIED CARD OF 'quillworklaw08.DomGrafts'. -/
def domGraftsCard : Claim7 := { stood := { row := domGraftsRow, standIns := [], harness := (true, "298b3222f7b0c1da7d31dd216d4f85638a0c269ca0a176a008fc12b304021f49"), looks := false }, kinds := [], alts := [], laidByText := true, laidKinds := [.data], laidTests := true, laidLooks := .later }
def DomGraftsCardSaid : Prop := Claim7.holds Tryd.pinned (.plain (OpenSpec.ofChange domGraftsSpec)) domGraftsCard

/-- THE TIED CARD OF 'quillworklaw08.DomApart'. -/
def domApartCard : Claim7 := { stood := { row := domApartRow, standIns := [], harness := (true, "298b3222f7b0c1da7d31dd216d4f85638a0c269ca0a176a008fc12b304021f49"), looks := false }, kinds := [], alts := [], laidByText := true, laidKinds := [.data], laidTests := true, laidLooks := .later }
def DomApartCardSaid : Prop := Claim7.holds Tryd.pinned (.plain (OpenSpec.ofChange domApartSpec)) domApartCard

/-- THE TIED CARD OF 'quillworklaw08.DomBack'. -/
def domBackCard : Claim7 := { stood := { row := domBackRow, standIns := [], harness := (true, "298b3222f7b0c1da7d31dd216d4f85638a0c269ca0a176a008fc12b304021f49"), looks := false }, kinds := [], alts := [], laidByText := true, laidKinds := [.data], laidTests := true, laidLooks := .later }
def DomBackCardSaid : Prop := Claim7.holds Tryd.pinned (.plain (OpenSpec.ofChange domBackSpec)) domBackCard

/-- THE SECOND FORM's CARD OF 'quillworklaw08.DomPlays'. -/
def domPlaysUptoCard : Claim7 := { stood := { row := domPlaysUptoRow, standIns := [], harness := (true, "298b3222f7b0c1da7d31dd216d4f85638a0c269ca0a176a008fc12b304021f49"), looks := false }, kinds := [], alts := [], laidByText := true, laidKinds := [.data], laidTests := true, laidLooks := .later }
def DomPlaysUptoCardSaid : Prop := Claim7.holds Tryd.pinned (.plain (OpenSpec.upto domPlaysSpec)) domPlaysUptoCard

/-- THE SECOND FORM's CARD OF 'quillworklaw08.DomSound'. -/
def domSoundUptoCard : Claim7 := { stood := { row := domSoundUptoRow, standIns := [], harness := (true, "298b3222f7b0c1da7d31dd216d4f85638a0c269ca0a176a008fc12b304021f49"), looks := false }, kinds := [], alts := [], laidByText := true, laidKinds := [.data], laidTests := true, laidLooks := .later }
def DomSoundUptoCardSaid : Prop := Claim7.holds Tryd.pinned (.plain (OpenSpec.upto domSoundSpec)) domSoundUptoCard

/-- THE SECOND FORM's CARD OF 'quillworklaw08.DomGrafts'. -/
def domGraftsUptoCard : Claim7 := { stood := { row := domGraftsUptoRow, standIns := [], harness := (true, "298b3222f7b0c1da7d31dd216d4f85638a0c269ca0a176a008fc12b304021f49"), looks := false }, kinds := [], alts := [], laidByText := true, laidKinds := [.data], laidTests := true, laidLooks := .later }
def DomGraftsUptoCardSaid : Prop := Claim7.holds Tryd.pinned (.plain (OpenSpec.upto domGraftsSpec)) domGraftsUptoCard

/-- THE SECOND FORM's CARD OF 'quillworklaw08.DomApart'. -/
def domApartUptoCard : Claim7 := { stood := { row := domApartUptoRow, standIns := [], harness := (true, "298b3222f7b0c1da7d31dd216d4f85638a0c269ca0a176a008fc12b304021f49"), looks := false }, kinds := [], alts := [], laidByText := true, laidKinds := [.data], laidTests := true, laidLooks := .later }
def DomApartUptoCardSaid : Prop := Claim7.holds Tryd.pinned (.plain (OpenSpec.upto domApartSpec)) domApartUptoCard

/-- THE SECOND FORM's CARD OF 'quillworklaw08.DomBack'. -/
def domBackUptoCard : Claim7 := { stood := { row := domBackUptoRow, standIns := [], harness := (true, "298b3222f7b0c1da7d31dd216d4f85638a0c269ca0a176a008fc12b304021f49"), looks := false }, kinds := [], alts := [], laidByText := true, laidKinds := [.data], laidTests := true, laidLooks := .later }
def DomBackUptoCardSaid : Prop := Claim7.holds Tryd.pinned (.plain (OpenSpec.upto domBackSpec)) domBackUptoCard
end Rows
end Go.Proofs.YtdegkcibadjogaaDoor
