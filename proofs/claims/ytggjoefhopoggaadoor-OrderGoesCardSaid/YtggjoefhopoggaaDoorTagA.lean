/-
  The contracts of layer 2's functions that only compute: class, list, line, box, may, heading, line of a kind; the program's and the document's.
-/
import Derived.Test.YtggjoefhopoggaaDoorRows
import Derived.Test.YtggjoefhopoggaaDoorTagPlain
import Derived.WalkKit
import Derived.WalkSpells
import Derived.WalkLawsBesides
namespace Go.Proofs.YtggjoefhopoggaaDoor
open Go.RowKit

theorem ret_bool {a b : Bool} (h : a = b) : Ending.returned (.bool a) = .returned (.bool b) := by rw [h]
theorem ret_int {k : IntKind} {a b : Int} (h : a = b) : Ending.returned (.int k a) = .returned (.int k b) := by rw [h]

end Go.Proofs.YtggjoefhopoggaaDoor
