/-
  A world for the witness of a row without listed variables.
-/
import Derived.Test.YtiaoflagjaclmaaOpen
namespace Go.Proofs.Ytiaoflagjaclmaa
open Go.ChangeShapes Go.WideShapes Go.ChangeAt Go.RowKit Go.Lib Go.Deep

noncomputable def bareWorld (os : Os) : World := World.holding Try.prog os ⟨#[], #[], []⟩

end Go.Proofs.Ytiaoflagjaclmaa
