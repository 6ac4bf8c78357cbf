/-
  NARROWER THAN 'FOR EVERY INPUT', by the rows' own cells (each row's printed sentence says how): DomPlays: loops, laid · DomSound: loops, laid · DomGrafts: loops, laid · DomApart: loops, laid · DomBack: loops, laid.
  DERIVED. THE GIVEN ROWS OF THIS SEAT. 5 by the template 'for every input the law returns true; each argument reads behind the call as it read before'; 0 by the template 'total and deterministic' (their statements: YtdegkcibadjogaaDoorTotals.lean).
  GIVEN WITH THE SEED: the statements are not yours to turn. If you find one false, say at which input.
  Laid BY PROGRAM, IN A SANDBOX (cutbox-rows.mjs): the forced cells as the released guide's own fill.sh prints them over the translation 50e9fc5e5432126b… (all of the seat's roots in one cut). By AI agents, Wed Nov 11 2026. No macro, syntax, notation, axiom, sorry.
-/
import Derived.Test.YtdegkcibadjogaaDoorChecked
import GoSem.Claim
import GoSem.ClaimJoined
import GoSem.ClaimMapViews
import Derived.JoinedTies
import Derived.KernelRfl
namespace Go.Proofs.YtdegkcibadjogaaDoor
/- THE CELL 'sum', in the pinned program and in every row, IS THE sha256 OF THE DUMP (.gsa) THAT YtdegkcibadjogaaDoorProg.lean LOADS. Nothing in Lean hashes anything: it is a label: what it is worth is what the hold of that sum in a sandbox is worth. -/
noncomputable def Tryd.pinned : Pinned := { name := "ytdegkcibadjogaadoor", sum := "50e9fc5e5432126b59de51d19ac9775696e2aa0388531d984b03775de7e88bdf", checked := Tryd.checked }
namespace Rows
def none {H : Type} : Left H := { results := [], args := [] }

/- WHAT THE LISTED PACKAGE-LEVEL VARIABLES READ AS WHEN THE CALL BEGINS. Each datum BY PROGRAM (the guide's laid-datum.mjs) off the statement by which the dump's own 'gosem.cut.vars' lays the variable. In a bare row this is a premise. The card (YtdegkcibadjogaaDoorCards.lean) ties it to the program's text. -/
def laid_quillwork_tags_own {H : Type} : DataW H := .agg [.lit (.string []), .lit (.string [100, 105, 118]), .lit (.string [112]), .lit (.string [104, 49]), .lit (.string [104, 50]), .lit (.string [104, 51]), .lit (.string [98, 108, 111, 99, 107, 113, 117, 111, 116, 101]), .lit (.string [117, 108]), .lit (.string [111, 108]), .lit (.string [108, 105]), .lit (.string [97]), .lit (.string [98]), .lit (.string [105]), .lit (.string [117]), .lit (.string [115]), .lit (.string [115, 112, 97, 110]), .lit (.string [98, 114])]

/-- 'quillworklaw08.DomPlays': WHATEVER THE INPUT: true; the input reads as it did. -/
def domPlaysSpec : ChangeSpec := { name := "domPlays", fn := fun _ => fun
  | [d1, d2, d3] => { results := [.lit (.bool true)], args := [d1, d2, d3] }
  | _ => none }
def domPlaysRow : OpenClaim := { program := "ytdegkcibadjogaadoor", sum := "50e9fc5e5432126b59de51d19ac9775696e2aa0388531d984b03775de7e88bdf", func := "quillwork/quillworklaw08.DomPlays", spec := "domPlays", inPlace := ["slices.overlaps[int]"], unfollowed := true, recurses := true, named := ["quillwork/tags.own"], loops := true, apart := false, laid := [("quillwork/tags.own", laid_quillwork_tags_own)] }
def DomPlaysSaid : Prop := domPlaysRow.holds Tryd.pinned (OpenSpec.ofChange domPlaysSpec)

/-- ITS FALSE NEIGHBOUR: 'it returns false'. Refute it at one input. -/
def domPlaysWrong : ChangeSpec := { name := "domPlays", fn := fun _ => fun
  | [d1, d2, d3] => { results := [.lit (.bool false)], args := [d1, d2, d3] }
  | _ => none }
def DomPlaysWrongFalsely : Prop := domPlaysRow.holds Tryd.pinned (OpenSpec.ofChange domPlaysWrong)

/-- 'quillworklaw08.DomSound': WHATEVER THE INPUT: true; the input reads as it did. -/
def domSoundSpec : ChangeSpec := { name := "domSound", fn := fun _ => fun
  | [d1, d2, d3] => { results := [.lit (.bool true)], args := [d1, d2, d3] }
  | _ => none }
def domSoundRow : OpenClaim := { program := "ytdegkcibadjogaadoor", sum := "50e9fc5e5432126b59de51d19ac9775696e2aa0388531d984b03775de7e88bdf", func := "quillwork/quillworklaw08.DomSound", spec := "domSound", inPlace := ["slices.overlaps[int]"], unfollowed := true, recurses := true, named := ["quillwork/tags.own"], loops := true, apart := false, laid := [("quillwork/tags.own", laid_quillwork_tags_own)] }
def DomSoundSaid : Prop := domSoundRow.holds Tryd.pinned (OpenSpec.ofChange domSoundSpec)

/-- ITS FALSE NEIGHBOUR: 'it returns false'. Refute it at one input. -/
def domSoundWrong : ChangeSpec := { name := "domSound", fn := fun _ => fun
  | [d1, d2, d3] => { results := [.lit (.bool false)], args := [d1, d2, d3] }
  | _ => none }
def DomSoundWrongFalsely : Prop := domSoundRow.holds Tryd.pinned (OpenSpec.ofChange domSoundWrong)

/-- 'quillworklaw08.DomGrafts': WHATEVER THE INPUT: true; the input reads as it did. -/
def domGraftsSpec : ChangeSpec := { name := "domGrafts", fn := fun _ => fun
  | [d1, d2, d3, d4, d5, d6] => { results := [.lit (.bool true)], args := [d1, d2, d3, d4, d5, d6] }
  | _ => none }
def domGraftsRow : OpenClaim := { program := "ytdegkcibadjogaadoor", sum := "50e9fc5e5432126b59de51d19ac9775696e2aa0388531d984b03775de7e88bdf", func := "quillwork/quillworklaw08.DomGrafts", spec := "domGrafts", inPlace := ["slices.overlaps[int]"], unfollowed := true, recurses := true, named := ["quillwork/tags.own"], loops := true, apart := false, laid := [("quillwork/tags.own", laid_quillwork_tags_own)] }
def DomGraftsSaid : Prop := domGraftsRow.holds Tryd.pinned (OpenSpec.ofChange domGraftsSpec)

/-- ITS FALSE NEIGHBOUR: 'it returns false'. Refute it at one input. -/
def domGraftsWrong : ChangeSpec := { name := "domGrafts", fn := fun _ => fun
  | [d1, d2, d3, d4, d5, d6] => { results := [.lit (.bool false)], args := [d1, d2, d3, d4, d5, d6] }
  | _ => none }
def DomGraftsWrongFalsely : Prop := domGraftsRow.holds Tryd.pinned (OpenSpec.ofChange domGraftsWrong)

/-- 'quillworklaw08.DomApart': WHATEVER THE INPUT: true; the input reads as it did. -/
def domApartSpec : ChangeSpec := { name := "domApart", fn := fun _ => fun
  | [d1, d2, d3, d4] => { results := [.lit (.bool true)], args := [d1, d2, d3, d4] }
  | _ => none }
def domApartRow : OpenClaim := { program := "ytdegkcibadjogaadoor", sum := "50e9fc5e5432126b59de51d19ac9775696e2aa0388531d984b03775de7e88bdf", func := "quillwork/quillworklaw08.DomApart", spec := "domApart", inPlace := ["slices.overlaps[int]"], unfollowed := true, recurses := true, named := ["quillwork/tags.own"], loops := true, apart := false, laid := [("quillwork/tags.own", laid_quillwork_tags_own)] }
def DomApartSaid : Prop := domApartRow.holds Tryd.pinned (OpenSpec.ofChange domApartSpec)

/-- ITS FALSE NEIGHBOUR: 'it returns false'. Refute it at one input. -/
def domApartWrong : ChangeSpec := { name := "domApart", fn := fun _ => fun
  | [d1, d2, d3, d4] => { results := [.lit (.bool false)], args := [d1, d2, d3, d4] }
  | _ => none }
def DomApartWrongFalsely : Prop := domApartRow.holds Tryd.pinned (OpenSpec.ofChange domApartWrong)

/-- 'quillworklaw08.DomBack': WHATEVER THE INPUT: true; the input reads as it did. -/
def domBackSpec : ChangeSpec := { name := "domBack", fn := fun _ => fun
  | [d1, d2, d3, d4, d5, d6] => { results := [.lit (.bool true)], args := [d1, d2, d3, d4, d5, d6] }
  | _ => none }
def domBackRow : OpenClaim := { program := "ytdegkcibadjogaadoor", sum := "50e9fc5e5432126b59de51d19ac9775696e2aa0388531d984b03775de7e88bdf", func := "quillwork/quillworklaw08.DomBack", spec := "domBack", inPlace := ["slices.overlaps[int]"], unfollowed := true, recurses := true, named := ["quillwork/tags.own"], loops := true, apart := false, laid := [("quillwork/tags.own", laid_quillwork_tags_own)] }
def DomBackSaid : Prop := domBackRow.holds Tryd.pinned (OpenSpec.ofChange domBackSpec)

/-- ITS FALSE NEIGHBOUR: 'it returns false'. Refute it at one input. -/
def domBackWrong : ChangeSpec := { name := "domBack", fn := fun _ => fun
  | [d1, d2, d3, d4, d5, d6] => { results := [.lit (.bool false)], args := [d1, d2, d3, d4, d5, d6] }
  | _ => none }
def DomBackWrongFalsely : Prop := domBackRow.holds Tryd.pinned (OpenSpec.ofChange domBackWrong)

/- THE SECOND FORM. 'bulk': how many values and letters a reading holds, each counted each time it is reached (what is shared counts as often as it is met; a slice's spare places count too). A statement '..UptoSaid' is the law's where the arguments, and the package variables that the reading takes, are together of bulk at most 1048576: NARROWER than '..Said'. Prove '..Said' where nothing that the law and all that it calls make is longer than what came in: it says more and counts as full. Else prove '..UptoSaid'. A law counts once. -/
mutual
def uptoBulk {H : Type} : DataW H → Nat
  | .lit (.string bytes) => bytes.length + 1
  | .lit _ => 1
  | .nil => 1
  | .ptr d => uptoBulk d + 1
  | .slice elems spare => uptoBulkAll elems + uptoBulkAll spare + 1
  | .agg parts => uptoBulkAll parts + 1
  | .iface _ d => uptoBulk d + 1
  | .map entries => uptoBulkEntries entries + 1
  | .held _ => 1
def uptoBulkAll {H : Type} : List (DataW H) → Nat
  | [] => 0
  | d :: r => uptoBulk d + uptoBulkAll r
def uptoBulkEntries {H : Type} : List (Lit × DataW H) → Nat
  | [] => 0
  | x :: r => uptoBulkEntry x + uptoBulkEntries r
def uptoBulkEntry {H : Type} : Lit × DataW H → Nat
  | (.string bytes, d) => bytes.length + uptoBulk d + 1
  | (_, d) => uptoBulk d + 1
 end
def uptoSmall : (H : Type) → List (DataW H) → Bool := fun _ ds => decide (uptoBulkAll ds ≤ 1048576)
def OpenSpec.upto (s : _root_.Go.ChangeSpec) : _root_.Go.OpenSpec := { _root_.Go.OpenSpec.ofChange s with cond := some uptoSmall }

/-- 'quillworklaw08.DomPlays', WHERE WHAT IT READS IS OF BULK AT MOST 1048576: true; the input reads as it did. -/
def domPlaysUptoRow : OpenClaim := { program := "ytdegkcibadjogaadoor", sum := "50e9fc5e5432126b59de51d19ac9775696e2aa0388531d984b03775de7e88bdf", func := "quillwork/quillworklaw08.DomPlays", spec := "domPlays", inPlace := ["slices.overlaps[int]"], unfollowed := true, recurses := true, named := ["quillwork/tags.own"], loops := true, apart := false, laid := [("quillwork/tags.own", laid_quillwork_tags_own)], narrowed := true }
def DomPlaysUptoSaid : Prop := domPlaysUptoRow.holds Tryd.pinned (OpenSpec.upto domPlaysSpec)

/-- 'quillworklaw08.DomSound', WHERE WHAT IT READS IS OF BULK AT MOST 1048576: true; the input reads as it did. -/
def domSoundUptoRow : OpenClaim := { program := "ytdegkcibadjogaadoor", sum := "50e9fc5e5432126b59de51d19ac9775696e2aa0388531d984b03775de7e88bdf", func := "quillwork/quillworklaw08.DomSound", spec := "domSound", inPlace := ["slices.overlaps[int]"], unfollowed := true, recurses := true, named := ["quillwork/tags.own"], loops := true, apart := false, laid := [("quillwork/tags.own", laid_quillwork_tags_own)], narrowed := true }
def DomSoundUptoSaid : Prop := domSoundUptoRow.holds Tryd.pinned (OpenSpec.upto domSoundSpec)

/-- 'quillworklaw08.DomGrafts', WHERE WHAT IT READS IS OF BULK AT MOST 1048576: true; the input reads as it did. -/
def domGraftsUptoRow : OpenClaim := { program := "ytdegkcibadjogaadoor", sum := "50e9fc5e5432126b59de51d19ac9775696e2aa0388531d984b03775de7e88bdf", func := "quillwork/quillworklaw08.DomGrafts", spec := "domGrafts", inPlace := ["slices.overlaps[int]"], unfollowed := true, recurses := true, named := ["quillwork/tags.own"], loops := true, apart := false, laid := [("quillwork/tags.own", laid_quillwork_tags_own)], narrowed := true }
def DomGraftsUptoSaid : Prop := domGraftsUptoRow.holds Tryd.pinned (OpenSpec.upto domGraftsSpec)

/-- 'quillworklaw08.DomApart', WHERE WHAT IT READS IS OF BULK AT MOST 1048576: true; the input reads as it did. -/
def domApartUptoRow : OpenClaim := { program := "ytdegkcibadjogaadoor", sum := "50e9fc5e5432126b59de51d19ac9775696e2aa0388531d984b03775de7e88bdf", func := "quillwork/quillworklaw08.DomApart", spec := "domApart", inPlace := ["slices.overlaps[int]"], unfollowed := true, recurses := true, named := ["quillwork/tags.own"], loops := true, apart := false, laid := [("quillwork/tags.own", laid_quillwork_tags_own)], narrowed := true }
def DomApartUptoSaid : Prop := domApartUptoRow.holds Tryd.pinned (OpenSpec.upto domApartSpec)

/-- 'quillworklaw08.DomBack', WHERE WHAT IT READS IS OF BULK AT MOST 1048576: true; the input reads as it did. -/
def domBackUptoRow : OpenClaim := { program := "ytdegkcibadjogaadoor", sum := "50e9fc5e5432126b59de51d19ac9775696e2aa0388531d984b03775de7e88bdf", func := "quillwork/quillworklaw08.DomBack", spec := "domBack", inPlace := ["slices.overlaps[int]"], unfollowed := true, recurses := true, named := ["quillwork/tags.own"], loops := true, apart := false, laid := [("quillwork/tags.own", laid_quillwork_tags_own)], narrowed := true }
def DomBackUptoSaid : Prop := domBackUptoRow.holds Tryd.pinned (OpenSpec.upto domBackSpec)

end Rows
end Go.Proofs.YtdegkcibadjogaaDoor
