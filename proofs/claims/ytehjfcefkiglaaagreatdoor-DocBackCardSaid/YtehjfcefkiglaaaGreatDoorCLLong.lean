/-
  Has a document more than the laws go through?
-/
import Derived.Test.YtehjfcefkiglaaaGreatDoorCDocP
import Derived.Test.YtehjfcefkiglaaaGreatDoorCDocD

namespace Go.Proofs.YtehjfcefkiglaaaGreatDoor
open Go.RowKit Go.Lib

theorem llong_any (v : Value) (l : List Lw) (w : World) (h : DocAt w v l) (hs : SizedD l) :
    Calls Tryz.prog 10 #[v] w fun e w' => e = .returned (.bool (longD (pl l))) ∧ Below w.heap.size w w' := by
  obtain ⟨a, c, rfl⟩ := h.s.len
  have cL := dlong_any _ l w h hs
  clear h hs
  go_enter Tryz.func10, Tryz.ntmps10
  go_wp2_with (go_at_call 59; ((with_reducible refine cL.mono ?_); rintro e w1 ⟨rfl, z, rfl⟩))
  go_ret
  exact ⟨rfl, below_draws w z⟩

end Go.Proofs.YtehjfcefkiglaaaGreatDoor
