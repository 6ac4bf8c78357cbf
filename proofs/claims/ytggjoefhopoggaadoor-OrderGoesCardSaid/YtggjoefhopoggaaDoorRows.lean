/-
  NARROWER THAN 'FOR EVERY INPUT', by the rows' own cells (each row's printed sentence says how): OrderNobody: laid · OrderTotal: loops, laid · OrderGoes: loops, laid · OrderBack: loops, laid.
  DERIVED. THE GIVEN ROWS OF THIS SEAT. 4 by the template 'for every input the law returns true; each argument reads behind the call as it read before'; 0 by the template 'total and deterministic' (their statements: YtggjoefhopoggaaDoorTotals.lean).
  GIVEN WITH THE SEED: the statements are not yours to turn. If you find one false, say at which input.
  Laid BY PROGRAM, IN A SANDBOX (cutbox-rows.mjs): the forced cells as the released guide's own fill.sh prints them over the translation cd213b3c3a8538af… (all of the seat's roots in one cut). By AI agents, Wed Nov 11 2026. No macro, syntax, notation, axiom, sorry.
-/
import Derived.Test.YtggjoefhopoggaaDoorChecked
import GoSem.Claim
import GoSem.ClaimJoined
import GoSem.ClaimMapViews
import Derived.JoinedTies
import Derived.KernelRfl
namespace Go.Proofs.YtggjoefhopoggaaDoor
/- THE CELL 'sum', in the pinned program and in every row, IS THE sha256 OF THE DUMP (.gsa) THAT YtggjoefhopoggaaDoorProg.lean LOADS. Nothing in Lean hashes anything: it is a label: what it is worth is what the hold of that sum in a sandbox is worth. -/
noncomputable def Tryd.pinned : Pinned := { name := "ytggjoefhopoggaadoor", sum := "cd213b3c3a8538afc3da0806b4dc7e34bb22beccea7b2a38228b343261fbccb2", checked := Tryd.checked }
namespace Rows
def none {H : Type} : Left H := { results := [], args := [] }

/- WHAT THE LISTED PACKAGE-LEVEL VARIABLES READ AS WHEN THE CALL BEGINS. Each datum BY PROGRAM (the guide's laid-datum.mjs) off the statement by which the dump's own 'gosem.cut.vars' lays the variable. In a bare row this is a premise. The card (YtggjoefhopoggaaDoorCards.lean) ties it to the program's text. -/
def laid_quillwork_tags_own {H : Type} : DataW H := .agg [.lit (.string []), .lit (.string [100, 105, 118]), .lit (.string [112]), .lit (.string [104, 49]), .lit (.string [104, 50]), .lit (.string [104, 51]), .lit (.string [98, 108, 111, 99, 107, 113, 117, 111, 116, 101]), .lit (.string [117, 108]), .lit (.string [111, 108]), .lit (.string [108, 105]), .lit (.string [97]), .lit (.string [98]), .lit (.string [105]), .lit (.string [117]), .lit (.string [115]), .lit (.string [115, 112, 97, 110]), .lit (.string [98, 114])]

/-- 'quillworklaw09.OrderNobody': WHATEVER THE INPUT: true; the input reads as it did. -/
def orderNobodySpec : ChangeSpec := { name := "orderNobody", fn := fun _ => fun
  | [d1, d2, d3] => { results := [.lit (.bool true)], args := [d1, d2, d3] }
  | _ => none }
def orderNobodyRow : OpenClaim := { program := "ytggjoefhopoggaadoor", sum := "cd213b3c3a8538afc3da0806b4dc7e34bb22beccea7b2a38228b343261fbccb2", func := "quillwork/quillworklaw09.OrderNobody", spec := "orderNobody", inPlace := ["slices.overlaps[int]"], unfollowed := true, recurses := true, named := ["quillwork/tags.own"], apart := false, laid := [("quillwork/tags.own", laid_quillwork_tags_own)] }
def OrderNobodySaid : Prop := orderNobodyRow.holds Tryd.pinned (OpenSpec.ofChange orderNobodySpec)

/-- ITS FALSE NEIGHBOUR: 'it returns false'. Refute it at one input. -/
def orderNobodyWrong : ChangeSpec := { name := "orderNobody", fn := fun _ => fun
  | [d1, d2, d3] => { results := [.lit (.bool false)], args := [d1, d2, d3] }
  | _ => none }
def OrderNobodyWrongFalsely : Prop := orderNobodyRow.holds Tryd.pinned (OpenSpec.ofChange orderNobodyWrong)

/-- 'quillworklaw09.OrderTotal': WHATEVER THE INPUT: true; the input reads as it did. -/
def orderTotalSpec : ChangeSpec := { name := "orderTotal", fn := fun _ => fun
  | [d1, d2, d3, d4, d5, d6] => { results := [.lit (.bool true)], args := [d1, d2, d3, d4, d5, d6] }
  | _ => none }
def orderTotalRow : OpenClaim := { program := "ytggjoefhopoggaadoor", sum := "cd213b3c3a8538afc3da0806b4dc7e34bb22beccea7b2a38228b343261fbccb2", func := "quillwork/quillworklaw09.OrderTotal", spec := "orderTotal", inPlace := ["slices.overlaps[int]"], unfollowed := true, recurses := true, named := ["quillwork/tags.own"], loops := true, apart := false, laid := [("quillwork/tags.own", laid_quillwork_tags_own)] }
def OrderTotalSaid : Prop := orderTotalRow.holds Tryd.pinned (OpenSpec.ofChange orderTotalSpec)

/-- ITS FALSE NEIGHBOUR: 'it returns false'. Refute it at one input. -/
def orderTotalWrong : ChangeSpec := { name := "orderTotal", fn := fun _ => fun
  | [d1, d2, d3, d4, d5, d6] => { results := [.lit (.bool false)], args := [d1, d2, d3, d4, d5, d6] }
  | _ => none }
def OrderTotalWrongFalsely : Prop := orderTotalRow.holds Tryd.pinned (OpenSpec.ofChange orderTotalWrong)

/-- 'quillworklaw09.OrderGoes': WHATEVER THE INPUT: true; the input reads as it did. -/
def orderGoesSpec : ChangeSpec := { name := "orderGoes", fn := fun _ => fun
  | [d1, d2, d3, d4] => { results := [.lit (.bool true)], args := [d1, d2, d3, d4] }
  | _ => none }
def orderGoesRow : OpenClaim := { program := "ytggjoefhopoggaadoor", sum := "cd213b3c3a8538afc3da0806b4dc7e34bb22beccea7b2a38228b343261fbccb2", func := "quillwork/quillworklaw09.OrderGoes", spec := "orderGoes", inPlace := ["slices.overlaps[int]"], unfollowed := true, recurses := true, named := ["quillwork/tags.own"], loops := true, apart := false, laid := [("quillwork/tags.own", laid_quillwork_tags_own)] }
def OrderGoesSaid : Prop := orderGoesRow.holds Tryd.pinned (OpenSpec.ofChange orderGoesSpec)

/-- ITS FALSE NEIGHBOUR: 'it returns false'. Refute it at one input. -/
def orderGoesWrong : ChangeSpec := { name := "orderGoes", fn := fun _ => fun
  | [d1, d2, d3, d4] => { results := [.lit (.bool false)], args := [d1, d2, d3, d4] }
  | _ => none }
def OrderGoesWrongFalsely : Prop := orderGoesRow.holds Tryd.pinned (OpenSpec.ofChange orderGoesWrong)

/-- 'quillworklaw09.OrderBack': WHATEVER THE INPUT: true; the input reads as it did. -/
def orderBackSpec : ChangeSpec := { name := "orderBack", fn := fun _ => fun
  | [d1, d2, d3, d4] => { results := [.lit (.bool true)], args := [d1, d2, d3, d4] }
  | _ => none }
def orderBackRow : OpenClaim := { program := "ytggjoefhopoggaadoor", sum := "cd213b3c3a8538afc3da0806b4dc7e34bb22beccea7b2a38228b343261fbccb2", func := "quillwork/quillworklaw09.OrderBack", spec := "orderBack", inPlace := ["slices.overlaps[int]"], unfollowed := true, recurses := true, named := ["quillwork/tags.own"], loops := true, apart := false, laid := [("quillwork/tags.own", laid_quillwork_tags_own)] }
def OrderBackSaid : Prop := orderBackRow.holds Tryd.pinned (OpenSpec.ofChange orderBackSpec)

/-- ITS FALSE NEIGHBOUR: 'it returns false'. Refute it at one input. -/
def orderBackWrong : ChangeSpec := { name := "orderBack", fn := fun _ => fun
  | [d1, d2, d3, d4] => { results := [.lit (.bool false)], args := [d1, d2, d3, d4] }
  | _ => none }
def OrderBackWrongFalsely : Prop := orderBackRow.holds Tryd.pinned (OpenSpec.ofChange orderBackWrong)

/- THE SECOND FORM. 'bulk': how many values and letters a reading holds, each counted each time it is reached (what is shared counts as often as it is met; a slice's spare places count too). A statement '..UptoSaid' is the law's where the arguments, and the package variables that the reading takes, are together of bulk at most 1048576: NARROWER than '..Said'. Prove '..Said' where nothing that the law and all that it calls make is longer than what came in: it says more and counts as full. Else prove '..UptoSaid'. A law counts once. -/
mutual
def uptoBulk {H : Type} : DataW H → Nat
  | .lit (.string bytes) => bytes.length + 1
  | .lit _ => 1
  | .nil => 1
  | .ptr d => uptoBulk d + 1
  | .slice elems spare => uptoBulkAll elems + uptoBulkAll spare + 1
  | .agg parts => uptoBulkAll parts + 1
  | .iface _ d => uptoBulk d + 1
  | .map entries => uptoBulkEntries entries + 1
  | .held _ => 1
def uptoBulkAll {H : Type} : List (DataW H) → Nat
  | [] => 0
  | d :: r => uptoBulk d + uptoBulkAll r
def uptoBulkEntries {H : Type} : List (Lit × DataW H) → Nat
  | [] => 0
  | x :: r => uptoBulkEntry x + uptoBulkEntries r
def uptoBulkEntry {H : Type} : Lit × DataW H → Nat
  | (.string bytes, d) => bytes.length + uptoBulk d + 1
  | (_, d) => uptoBulk d + 1
 end
def uptoSmall : (H : Type) → List (DataW H) → Bool := fun _ ds => decide (uptoBulkAll ds ≤ 1048576)
def OpenSpec.upto (s : _root_.Go.ChangeSpec) : _root_.Go.OpenSpec := { _root_.Go.OpenSpec.ofChange s with cond := some uptoSmall }

/-- 'quillworklaw09.OrderNobody', WHERE WHAT IT READS IS OF BULK AT MOST 1048576: true; the input reads as it did. -/
def orderNobodyUptoRow : OpenClaim := { program := "ytggjoefhopoggaadoor", sum := "cd213b3c3a8538afc3da0806b4dc7e34bb22beccea7b2a38228b343261fbccb2", func := "quillwork/quillworklaw09.OrderNobody", spec := "orderNobody", inPlace := ["slices.overlaps[int]"], unfollowed := true, recurses := true, named := ["quillwork/tags.own"], apart := false, laid := [("quillwork/tags.own", laid_quillwork_tags_own)], narrowed := true }
def OrderNobodyUptoSaid : Prop := orderNobodyUptoRow.holds Tryd.pinned (OpenSpec.upto orderNobodySpec)

/-- 'quillworklaw09.OrderTotal', WHERE WHAT IT READS IS OF BULK AT MOST 1048576: true; the input reads as it did. -/
def orderTotalUptoRow : OpenClaim := { program := "ytggjoefhopoggaadoor", sum := "cd213b3c3a8538afc3da0806b4dc7e34bb22beccea7b2a38228b343261fbccb2", func := "quillwork/quillworklaw09.OrderTotal", spec := "orderTotal", inPlace := ["slices.overlaps[int]"], unfollowed := true, recurses := true, named := ["quillwork/tags.own"], loops := true, apart := false, laid := [("quillwork/tags.own", laid_quillwork_tags_own)], narrowed := true }
def OrderTotalUptoSaid : Prop := orderTotalUptoRow.holds Tryd.pinned (OpenSpec.upto orderTotalSpec)

/-- 'quillworklaw09.OrderGoes', WHERE WHAT IT READS IS OF BULK AT MOST 1048576: true; the input reads as it did. -/
def orderGoesUptoRow : OpenClaim := { program := "ytggjoefhopoggaadoor", sum := "cd213b3c3a8538afc3da0806b4dc7e34bb22beccea7b2a38228b343261fbccb2", func := "quillwork/quillworklaw09.OrderGoes", spec := "orderGoes", inPlace := ["slices.overlaps[int]"], unfollowed := true, recurses := true, named := ["quillwork/tags.own"], loops := true, apart := false, laid := [("quillwork/tags.own", laid_quillwork_tags_own)], narrowed := true }
def OrderGoesUptoSaid : Prop := orderGoesUptoRow.holds Tryd.pinned (OpenSpec.upto orderGoesSpec)

/-- 'quillworklaw09.OrderBack', WHERE WHAT IT READS IS OF BULK AT MOST 1048576: true; the input reads as it did. -/
def orderBackUptoRow : OpenClaim := { program := "ytggjoefhopoggaadoor", sum := "cd213b3c3a8538afc3da0806b4dc7e34bb22beccea7b2a38228b343261fbccb2", func := "quillwork/quillworklaw09.OrderBack", spec := "orderBack", inPlace := ["slices.overlaps[int]"], unfollowed := true, recurses := true, named := ["quillwork/tags.own"], loops := true, apart := false, laid := [("quillwork/tags.own", laid_quillwork_tags_own)], narrowed := true }
def OrderBackUptoSaid : Prop := orderBackUptoRow.holds Tryd.pinned (OpenSpec.upto orderBackSpec)

end Rows
end Go.Proofs.YtggjoefhopoggaaDoor
