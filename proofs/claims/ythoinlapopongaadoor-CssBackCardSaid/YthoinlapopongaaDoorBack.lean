/-
  What was printed is parsed again: each of the bits that may be.
-/
import Derived.Test.YthoinlapopongaaDoorLaws
namespace Go.Proofs.YthoinlapopongaaDoor
open Go.RowKit Go.Lib

/-- Of the lines, if one is set or cleared, the one that is not set is cleared. -/
def fixN (a b : Nat) : Nat := if (a ||| b) &&& 12 = 0 then b else b ||| (12 ^^^ (12 &&& a))
def backAt (a : Nat) : Prop := ∀ b : Fin 16, a &&& b.val = 0 → parseS (printN a b.val) = (BitVec.ofNat 64 a, BitVec.ofNat 64 (fixN a b.val))
theorem back0 : backAt 0 := by unfold backAt; decide +kernel
theorem back1 : backAt 1 := by unfold backAt; decide +kernel
theorem back2 : backAt 2 := by unfold backAt; decide +kernel
theorem back3 : backAt 3 := by unfold backAt; decide +kernel
theorem back4 : backAt 4 := by unfold backAt; decide +kernel
theorem back5 : backAt 5 := by unfold backAt; decide +kernel
theorem back6 : backAt 6 := by unfold backAt; decide +kernel
theorem back7 : backAt 7 := by unfold backAt; decide +kernel
theorem back8 : backAt 8 := by unfold backAt; decide +kernel
theorem back9 : backAt 9 := by unfold backAt; decide +kernel
theorem back10 : backAt 10 := by unfold backAt; decide +kernel
theorem back11 : backAt 11 := by unfold backAt; decide +kernel
theorem back12 : backAt 12 := by unfold backAt; decide +kernel
theorem back13 : backAt 13 := by unfold backAt; decide +kernel
theorem back14 : backAt 14 := by unfold backAt; decide +kernel
theorem back15 : backAt 15 := by unfold backAt; decide +kernel
theorem back_all : ∀ a : Fin 16, backAt a.val
  | ⟨0, _⟩ => back0
  | ⟨1, _⟩ => back1
  | ⟨2, _⟩ => back2
  | ⟨3, _⟩ => back3
  | ⟨4, _⟩ => back4
  | ⟨5, _⟩ => back5
  | ⟨6, _⟩ => back6
  | ⟨7, _⟩ => back7
  | ⟨8, _⟩ => back8
  | ⟨9, _⟩ => back9
  | ⟨10, _⟩ => back10
  | ⟨11, _⟩ => back11
  | ⟨12, _⟩ => back12
  | ⟨13, _⟩ => back13
  | ⟨14, _⟩ => back14
  | ⟨15, _⟩ => back15
  | ⟨n + 16, h⟩ => absurd h (by omega)
theorem parse_print {a b : Nat} (ha : a < 16) (hb : b < 16) (h : a &&& b = 0) : parseS (printN a b) = (BitVec.ofNat 64 a, BitVec.ofNat 64 (fixN a b)) := back_all ⟨a, ha⟩ ⟨b, hb⟩ h

end Go.Proofs.YthoinlapopongaaDoor
