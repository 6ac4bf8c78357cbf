/-
  What is done to a line of its own: indent.
-/
import Derived.Test.YtafincmcmgedbaaGreatDoorCAppG
import Derived.Deep.RegionLawGrows

namespace Go.Proofs.YtafincmcmgedbaaGreatDoor
open Go.RowKit Go.Lib

def indentS (L : Ln) : Int × Ln := if L.ls.length = 6 ∨ (L.ls.length = 0 ∧ L.q = 6) then (7, ln0) else if 0 < L.ls.length then (0, { L with ls := L.ls ++ [L.ls[L.ls.length - 1]!] }) else (0, { L with q := L.q + 1 })

/-- New ints are laid into the line's box. -/
theorem mine_new {B C D b j : Nat} {w w' : World} {sl v sc : Value} {ls ls' : IRow} {cs : Row} (h : MineLn B C w sl sc ls cs) (hbw : Below w.heap.size w w') (ho : w'.ownsRow D 3 1 v ls'.length (cellsZ ls')) (hD : w.heap.size ≤ D) (hC : C ≤ b) (hb : b < w.heap.size) (hB : B ≤ C) (u : Value) :
    MineLn B (w'.setCell ⟨b, j, none⟩ u).heap.size (w'.setCell ⟨b, j, none⟩ u) v sc ls' cs := by
  have hs := hbw.size
  have hz := (mineZ_of_own ho).mono hD (Nat.le_refl _)
  refine ⟨(hz.kept (kept_set w' ⟨b, j, none⟩ u (.inl hb))).mono (by omega) (by simp [World.setCell]), ((h.r.kept (kept_of_below hbw)).kept (kept_set w' ⟨b, j, none⟩ u (.inr hC))).mono (Nat.le_refl _) (by simp [World.setCell]; omega), ?_⟩
  intro h1 h2 g o n c g' o' n' c' e e' hgg
  have k1 := (hz.mine h1 _ _ _ _ e).1
  have k2 := (h.r.mine h2 _ _ _ _ e').2.1
  omega

end Go.Proofs.YtafincmcmgedbaaGreatDoor
