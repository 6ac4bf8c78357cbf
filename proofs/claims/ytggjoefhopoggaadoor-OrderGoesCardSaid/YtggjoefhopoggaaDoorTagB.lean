/-
  The contracts of layer 2's functions on content and names: the document's May, Names, Name; the program's Name over its table.
-/
import Derived.Test.YtggjoefhopoggaaDoorTagA
import Derived.BigGuardPart
namespace Go.Proofs.YtggjoefhopoggaaDoor
open Go.RowKit

/-- The program's table of names, in memory. -/
def OwnT (w : World) : Prop := ∃ t fr, w.heap[0]? = some (.cells ownCells t fr)

theorem ownCells_at : ∀ k : Nat, k < 17 → ownCells[k]? = some (.string (nm k)) := by
  intro k hk
  have hc : k = 0 ∨ k = 1 ∨ k = 2 ∨ k = 3 ∨ k = 4 ∨ k = 5 ∨ k = 6 ∨ k = 7 ∨ k = 8 ∨ k = 9 ∨ k = 10 ∨ k = 11 ∨ k = 12 ∨ k = 13 ∨ k = 14 ∨ k = 15 ∨ k = 16 := by omega
  rcases hc with rfl | rfl | rfl | rfl | rfl | rfl | rfl | rfl | rfl | rfl | rfl | rfl | rfl | rfl | rfl | rfl | rfl <;> rfl

theorem OwnT.cell {w : World} (h : OwnT w) (k : Nat) (hk : k < 17) : w.cell? ⟨0, k, none⟩ = some (.string (nm k)) := by
  obtain ⟨t, fr, hb⟩ := h
  simp [World.cell?, hb, ownCells_at k hk]

theorem OwnT.pos {w : World} (h : OwnT w) : 0 < w.heap.size := by
  obtain ⟨t, fr, hb⟩ := h
  exact (Array.getElem?_eq_some_iff.1 hb).1

theorem OwnT.below {w w' : World} (h : OwnT w) (hb : Below w.heap.size w w') : OwnT w' := by
  have hp := h.pos
  obtain ⟨t, fr, h0⟩ := h
  exact ⟨t, fr, (hb.block _ hp).trans h0⟩

theorem name_any (t : Int) (w : World) (hT : OwnT w) :
    Calls Tryd.prog 87 #[.int .i64 t] w fun e w' => e = .returned (.string (nameOf t)) ∧ w = w' := by
  by_cases h0 : t < 0
  · have e : nameOf t = nm 0 := by simp [nameOf, h0]
    rw [e]
    clear e
    go_enter Tryd.func87, Tryd.ntmps87
    go_wp2
    go_ret
    exact ⟨rfl, rfl⟩
  · by_cases h1 : 16 < t
    · have e : nameOf t = nm 0 := by simp [nameOf, h1]
      rw [e]
      have h2 : 17 ≤ t := by omega
      clear e
      go_enter Tryd.func87, Tryd.ntmps87
      go_wp2
      go_ret
      exact ⟨rfl, rfl⟩
    · obtain ⟨k, rfl⟩ : ∃ a : Nat, t = a := ⟨t.toNat, by omega⟩
      have hc := hT.cell k (by omega)
      have e : nameOf k = nm k := by unfold nameOf; rw [if_neg (by omega)]; simp
      rw [e]
      have hk : k ≤ 16 := by omega
      clear e h0 h1
      go_enter Tryd.func87, Tryd.ntmps87
      go_wp2
      go_ret
      exact ⟨rfl, rfl⟩

end Go.Proofs.YtggjoefhopoggaaDoor
