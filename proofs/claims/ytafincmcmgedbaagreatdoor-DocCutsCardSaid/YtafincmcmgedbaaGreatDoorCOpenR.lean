/-
  What an argument that is a row of cells gives: how long it may be.
-/
import Derived.Test.YtafincmcmgedbaaGreatDoorCOpenD

namespace Go.Proofs.YtafincmcmgedbaaGreatDoor
open Go.Joins Go.ChangeShapes Go.WideShapes Go.ChangeAt Go.RowKit Go.Lib Go.Deep

set_option maxRecDepth 20000 in
theorem row_len_of_arg {H : Type} {enc : TypeId × Value → H} {W : World} {sp : Nat → Bool} {held : Bool} {v : Value} {d : DataW H} {p : List MemPlace} {ts : List TypeId} {ds : List (DataW H)} {j : Nat} {l : Row}
    (h : DataW.Trod enc Tryz.prog W 0 sp held 43 v d p) (hr : RowAt W v l) (hw : (DataW.weightsEach Tryz.prog ts ds).all (· ≤ reachBytes) = true) (ht : ts[j]? = some 43) (hd : ds[j]? = some d) : l.length ≤ 140737488355328 := by
  obtain ⟨fuel, hf⟩ := h
  obtain ⟨a, c, rfl⟩ := hr.len
  have hw1 : ∀ q ∈ d.weights Tryz.prog 43, q ≤ reachBytes := fun q hq => by
    have := List.all_eq_true.1 hw q (DataW.weights_mem_each ht hd q hq)
    simpa using this
  have := slice_len (v := .slice a l.length c) (y := (d, p)) Tryz.underlying43 (of_decide_eq_true (by kernel_rfl)) hf hw1 rfl
  unfold reachBytes at this
  omega

end Go.Proofs.YtafincmcmgedbaaGreatDoor
