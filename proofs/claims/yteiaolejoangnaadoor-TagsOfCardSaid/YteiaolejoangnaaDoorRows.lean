/-
  NARROWER THAN 'FOR EVERY INPUT', by the rows' own cells (each row's printed sentence says how): TagsTell: laid · TagsFind: laid · TagsMay: laid · TagsOf: laid · TagsNames: laid · TagsContent: laid.
  DERIVED. THE GIVEN ROWS OF THIS SEAT. 6 by the template 'for every input the law returns true; each argument reads behind the call as it read before'; 0 by the template 'total and deterministic' (their statements: YteiaolejoangnaaDoorTotals.lean).
  GIVEN WITH THE SEED: the statements are not yours to turn. If you find one false, say at which input.
  Laid BY PROGRAM, IN A SANDBOX (cutbox-rows.mjs): the forced cells as the released guide's own fill.sh prints them over the translation 85da0d1b75db4615… (all of the seat's roots in one cut). By AI agents, Wed Nov 11 2026. No macro, syntax, notation, axiom, sorry.
-/
import Derived.Test.YteiaolejoangnaaDoorChecked
import GoSem.Claim
import GoSem.ClaimJoined
import GoSem.ClaimMapViews
import Derived.JoinedTies
import Derived.KernelRfl
namespace Go.Proofs.YteiaolejoangnaaDoor
/- THE CELL 'sum', in the pinned program and in every row, IS THE sha256 OF THE DUMP (.gsa) THAT YteiaolejoangnaaDoorProg.lean LOADS. Nothing in Lean hashes anything: it is a label: what it is worth is what the hold of that sum in a sandbox is worth. -/
noncomputable def Tryd.pinned : Pinned := { name := "yteiaolejoangnaadoor", sum := "85da0d1b75db46155a9dbe71950cfd8243833c1c55d710677af686f5fee03738", checked := Tryd.checked }
namespace Rows
def none {H : Type} : Left H := { results := [], args := [] }

/- WHAT THE LISTED PACKAGE-LEVEL VARIABLES READ AS WHEN THE CALL BEGINS. Each datum BY PROGRAM (the guide's laid-datum.mjs) off the statement by which the dump's own 'gosem.cut.vars' lays the variable. In a bare row this is a premise. The card (YteiaolejoangnaaDoorCards.lean) ties it to the program's text. -/
def laid_quillwork_tags_own {H : Type} : DataW H := .agg [.lit (.string []), .lit (.string [100, 105, 118]), .lit (.string [112]), .lit (.string [104, 49]), .lit (.string [104, 50]), .lit (.string [104, 51]), .lit (.string [98, 108, 111, 99, 107, 113, 117, 111, 116, 101]), .lit (.string [117, 108]), .lit (.string [111, 108]), .lit (.string [108, 105]), .lit (.string [97]), .lit (.string [98]), .lit (.string [105]), .lit (.string [117]), .lit (.string [115]), .lit (.string [115, 112, 97, 110]), .lit (.string [98, 114])]

/-- 'quillworklaw02.TagsTell': WHATEVER THE INPUT: true; the input reads as it did. -/
def tagsTellSpec : ChangeSpec := { name := "tagsTell", fn := fun _ => fun
  | [d1, d2] => { results := [.lit (.bool true)], args := [d1, d2] }
  | _ => none }
def tagsTellRow : OpenClaim := { program := "yteiaolejoangnaadoor", sum := "85da0d1b75db46155a9dbe71950cfd8243833c1c55d710677af686f5fee03738", func := "quillwork/quillworklaw02.TagsTell", spec := "tagsTell", named := ["quillwork/tags.own"], apart := false, laid := [("quillwork/tags.own", laid_quillwork_tags_own)] }
def TagsTellSaid : Prop := tagsTellRow.holds Tryd.pinned (OpenSpec.ofChange tagsTellSpec)

/-- ITS FALSE NEIGHBOUR: 'it returns false'. Refute it at one input. -/
def tagsTellWrong : ChangeSpec := { name := "tagsTell", fn := fun _ => fun
  | [d1, d2] => { results := [.lit (.bool false)], args := [d1, d2] }
  | _ => none }
def TagsTellWrongFalsely : Prop := tagsTellRow.holds Tryd.pinned (OpenSpec.ofChange tagsTellWrong)

/-- 'quillworklaw02.TagsFind': WHATEVER THE INPUT: true; the input reads as it did. -/
def tagsFindSpec : ChangeSpec := { name := "tagsFind", fn := fun _ => fun
  | [d] => { results := [.lit (.bool true)], args := [d] }
  | _ => none }
def tagsFindRow : OpenClaim := { program := "yteiaolejoangnaadoor", sum := "85da0d1b75db46155a9dbe71950cfd8243833c1c55d710677af686f5fee03738", func := "quillwork/quillworklaw02.TagsFind", spec := "tagsFind", named := ["quillwork/tags.own"], apart := false, laid := [("quillwork/tags.own", laid_quillwork_tags_own)] }
def TagsFindSaid : Prop := tagsFindRow.holds Tryd.pinned (OpenSpec.ofChange tagsFindSpec)

/-- ITS FALSE NEIGHBOUR: 'it returns false'. Refute it at one input. -/
def tagsFindWrong : ChangeSpec := { name := "tagsFind", fn := fun _ => fun
  | [d] => { results := [.lit (.bool false)], args := [d] }
  | _ => none }
def TagsFindWrongFalsely : Prop := tagsFindRow.holds Tryd.pinned (OpenSpec.ofChange tagsFindWrong)

/-- 'quillworklaw02.TagsMay': WHATEVER THE INPUT: true; the input reads as it did. -/
def tagsMaySpec : ChangeSpec := { name := "tagsMay", fn := fun _ => fun
  | [d1, d2] => { results := [.lit (.bool true)], args := [d1, d2] }
  | _ => none }
def tagsMayRow : OpenClaim := { program := "yteiaolejoangnaadoor", sum := "85da0d1b75db46155a9dbe71950cfd8243833c1c55d710677af686f5fee03738", func := "quillwork/quillworklaw02.TagsMay", spec := "tagsMay", named := ["quillwork/tags.own"], apart := false, laid := [("quillwork/tags.own", laid_quillwork_tags_own)] }
def TagsMaySaid : Prop := tagsMayRow.holds Tryd.pinned (OpenSpec.ofChange tagsMaySpec)

/-- ITS FALSE NEIGHBOUR: 'it returns false'. Refute it at one input. -/
def tagsMayWrong : ChangeSpec := { name := "tagsMay", fn := fun _ => fun
  | [d1, d2] => { results := [.lit (.bool false)], args := [d1, d2] }
  | _ => none }
def TagsMayWrongFalsely : Prop := tagsMayRow.holds Tryd.pinned (OpenSpec.ofChange tagsMayWrong)

/-- 'quillworklaw02.TagsOf': WHATEVER THE INPUT: true; the input reads as it did. -/
def tagsOfSpec : ChangeSpec := { name := "tagsOf", fn := fun _ => fun
  | [d] => { results := [.lit (.bool true)], args := [d] }
  | _ => none }
def tagsOfRow : OpenClaim := { program := "yteiaolejoangnaadoor", sum := "85da0d1b75db46155a9dbe71950cfd8243833c1c55d710677af686f5fee03738", func := "quillwork/quillworklaw02.TagsOf", spec := "tagsOf", named := ["quillwork/tags.own"], apart := false, laid := [("quillwork/tags.own", laid_quillwork_tags_own)] }
def TagsOfSaid : Prop := tagsOfRow.holds Tryd.pinned (OpenSpec.ofChange tagsOfSpec)

/-- ITS FALSE NEIGHBOUR: 'it returns false'. Refute it at one input. -/
def tagsOfWrong : ChangeSpec := { name := "tagsOf", fn := fun _ => fun
  | [d] => { results := [.lit (.bool false)], args := [d] }
  | _ => none }
def TagsOfWrongFalsely : Prop := tagsOfRow.holds Tryd.pinned (OpenSpec.ofChange tagsOfWrong)

/-- 'quillworklaw02.TagsNames': WHATEVER THE INPUT: true; the input reads as it did. -/
def tagsNamesSpec : ChangeSpec := { name := "tagsNames", fn := fun _ => fun
  | [d1, d2, d3] => { results := [.lit (.bool true)], args := [d1, d2, d3] }
  | _ => none }
def tagsNamesRow : OpenClaim := { program := "yteiaolejoangnaadoor", sum := "85da0d1b75db46155a9dbe71950cfd8243833c1c55d710677af686f5fee03738", func := "quillwork/quillworklaw02.TagsNames", spec := "tagsNames", named := ["quillwork/tags.own"], apart := false, laid := [("quillwork/tags.own", laid_quillwork_tags_own)] }
def TagsNamesSaid : Prop := tagsNamesRow.holds Tryd.pinned (OpenSpec.ofChange tagsNamesSpec)

/-- ITS FALSE NEIGHBOUR: 'it returns false'. Refute it at one input. -/
def tagsNamesWrong : ChangeSpec := { name := "tagsNames", fn := fun _ => fun
  | [d1, d2, d3] => { results := [.lit (.bool false)], args := [d1, d2, d3] }
  | _ => none }
def TagsNamesWrongFalsely : Prop := tagsNamesRow.holds Tryd.pinned (OpenSpec.ofChange tagsNamesWrong)

/-- 'quillworklaw02.TagsContent': WHATEVER THE INPUT: true; the input reads as it did. -/
def tagsContentSpec : ChangeSpec := { name := "tagsContent", fn := fun _ => fun
  | [d1, d2] => { results := [.lit (.bool true)], args := [d1, d2] }
  | _ => none }
def tagsContentRow : OpenClaim := { program := "yteiaolejoangnaadoor", sum := "85da0d1b75db46155a9dbe71950cfd8243833c1c55d710677af686f5fee03738", func := "quillwork/quillworklaw02.TagsContent", spec := "tagsContent", named := ["quillwork/tags.own"], apart := false, laid := [("quillwork/tags.own", laid_quillwork_tags_own)] }
def TagsContentSaid : Prop := tagsContentRow.holds Tryd.pinned (OpenSpec.ofChange tagsContentSpec)

/-- ITS FALSE NEIGHBOUR: 'it returns false'. Refute it at one input. -/
def tagsContentWrong : ChangeSpec := { name := "tagsContent", fn := fun _ => fun
  | [d1, d2] => { results := [.lit (.bool false)], args := [d1, d2] }
  | _ => none }
def TagsContentWrongFalsely : Prop := tagsContentRow.holds Tryd.pinned (OpenSpec.ofChange tagsContentWrong)

/- THE SECOND FORM. 'bulk': how many values and letters a reading holds, each counted each time it is reached (what is shared counts as often as it is met; a slice's spare places count too). A statement '..UptoSaid' is the law's where the arguments, and the package variables that the reading takes, are together of bulk at most 1048576: NARROWER than '..Said'. Prove '..Said' where nothing that the law and all that it calls make is longer than what came in: it says more and counts as full. Else prove '..UptoSaid'. A law counts once. -/
mutual
def uptoBulk {H : Type} : DataW H → Nat
  | .lit (.string bytes) => bytes.length + 1
  | .lit _ => 1
  | .nil => 1
  | .ptr d => uptoBulk d + 1
  | .slice elems spare => uptoBulkAll elems + uptoBulkAll spare + 1
  | .agg parts => uptoBulkAll parts + 1
  | .iface _ d => uptoBulk d + 1
  | .map entries => uptoBulkEntries entries + 1
  | .held _ => 1
def uptoBulkAll {H : Type} : List (DataW H) → Nat
  | [] => 0
  | d :: r => uptoBulk d + uptoBulkAll r
def uptoBulkEntries {H : Type} : List (Lit × DataW H) → Nat
  | [] => 0
  | x :: r => uptoBulkEntry x + uptoBulkEntries r
def uptoBulkEntry {H : Type} : Lit × DataW H → Nat
  | (.string bytes, d) => bytes.length + uptoBulk d + 1
  | (_, d) => uptoBulk d + 1
 end
def uptoSmall : (H : Type) → List (DataW H) → Bool := fun _ ds => decide (uptoBulkAll ds ≤ 1048576)
def OpenSpec.upto (s : _root_.Go.ChangeSpec) : _root_.Go.OpenSpec := { _root_.Go.OpenSpec.ofChange s with cond := some uptoSmall }

/-- 'quillworklaw02.TagsTell', WHERE WHAT IT READS IS OF BULK AT MOST 1048576: true; the input reads as it did. -/
def tagsTellUptoRow : OpenClaim := { program := "yteiaolejoangnaadoor", sum := "85da0d1b75db46155a9dbe71950cfd8243833c1c55d710677af686f5fee03738", func := "quillwork/quillworklaw02.TagsTell", spec := "tagsTell", named := ["quillwork/tags.own"], apart := false, laid := [("quillwork/tags.own", laid_quillwork_tags_own)], narrowed := true }
def TagsTellUptoSaid : Prop := tagsTellUptoRow.holds Tryd.pinned (OpenSpec.upto tagsTellSpec)

/-- 'quillworklaw02.TagsFind', WHERE WHAT IT READS IS OF BULK AT MOST 1048576: true; the input reads as it did. -/
def tagsFindUptoRow : OpenClaim := { program := "yteiaolejoangnaadoor", sum := "85da0d1b75db46155a9dbe71950cfd8243833c1c55d710677af686f5fee03738", func := "quillwork/quillworklaw02.TagsFind", spec := "tagsFind", named := ["quillwork/tags.own"], apart := false, laid := [("quillwork/tags.own", laid_quillwork_tags_own)], narrowed := true }
def TagsFindUptoSaid : Prop := tagsFindUptoRow.holds Tryd.pinned (OpenSpec.upto tagsFindSpec)

/-- 'quillworklaw02.TagsMay', WHERE WHAT IT READS IS OF BULK AT MOST 1048576: true; the input reads as it did. -/
def tagsMayUptoRow : OpenClaim := { program := "yteiaolejoangnaadoor", sum := "85da0d1b75db46155a9dbe71950cfd8243833c1c55d710677af686f5fee03738", func := "quillwork/quillworklaw02.TagsMay", spec := "tagsMay", named := ["quillwork/tags.own"], apart := false, laid := [("quillwork/tags.own", laid_quillwork_tags_own)], narrowed := true }
def TagsMayUptoSaid : Prop := tagsMayUptoRow.holds Tryd.pinned (OpenSpec.upto tagsMaySpec)

/-- 'quillworklaw02.TagsOf', WHERE WHAT IT READS IS OF BULK AT MOST 1048576: true; the input reads as it did. -/
def tagsOfUptoRow : OpenClaim := { program := "yteiaolejoangnaadoor", sum := "85da0d1b75db46155a9dbe71950cfd8243833c1c55d710677af686f5fee03738", func := "quillwork/quillworklaw02.TagsOf", spec := "tagsOf", named := ["quillwork/tags.own"], apart := false, laid := [("quillwork/tags.own", laid_quillwork_tags_own)], narrowed := true }
def TagsOfUptoSaid : Prop := tagsOfUptoRow.holds Tryd.pinned (OpenSpec.upto tagsOfSpec)

/-- 'quillworklaw02.TagsNames', WHERE WHAT IT READS IS OF BULK AT MOST 1048576: true; the input reads as it did. -/
def tagsNamesUptoRow : OpenClaim := { program := "yteiaolejoangnaadoor", sum := "85da0d1b75db46155a9dbe71950cfd8243833c1c55d710677af686f5fee03738", func := "quillwork/quillworklaw02.TagsNames", spec := "tagsNames", named := ["quillwork/tags.own"], apart := false, laid := [("quillwork/tags.own", laid_quillwork_tags_own)], narrowed := true }
def TagsNamesUptoSaid : Prop := tagsNamesUptoRow.holds Tryd.pinned (OpenSpec.upto tagsNamesSpec)

/-- 'quillworklaw02.TagsContent', WHERE WHAT IT READS IS OF BULK AT MOST 1048576: true; the input reads as it did. -/
def tagsContentUptoRow : OpenClaim := { program := "yteiaolejoangnaadoor", sum := "85da0d1b75db46155a9dbe71950cfd8243833c1c55d710677af686f5fee03738", func := "quillwork/quillworklaw02.TagsContent", spec := "tagsContent", named := ["quillwork/tags.own"], apart := false, laid := [("quillwork/tags.own", laid_quillwork_tags_own)], narrowed := true }
def TagsContentUptoSaid : Prop := tagsContentUptoRow.holds Tryd.pinned (OpenSpec.upto tagsContentSpec)

end Rows
end Go.Proofs.YteiaolejoangnaaDoor
