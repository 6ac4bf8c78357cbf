/-
  Small laws of rows and texts; what is known of a row that came in.
-/
import Derived.Test.YtmlipcedkgfmiaaDoorRow
namespace Go.Proofs.YtmlipcedkgfmiaaDoor
open Go.RowKit Go.Lib

/-- The cell at a place, or none. -/
def atR (l : Row) (k : Nat) : Ce := l.getD k ce0
def aheadR (l : Row) (k : Nat) : Ce := if 0 < k then atR l (k - 1) else ce0
theorem atR_in {l : Row} {k : Nat} (h : k < l.length) : atR l k = l[k]! := by
  unfold atR
  rw [List.getD_eq_getElem?_getD, List.getElem!_eq_getElem?_getD, List.getElem?_eq_getElem h]; rfl
theorem atR_out {l : Row} {k : Nat} (h : l.length ≤ k) : atR l k = ce0 := by
  unfold atR
  rw [List.getD_eq_getElem?_getD, List.getElem?_eq_none h]; rfl

theorem size_zero_iff (w : ByteArray) : w.size = 0 ↔ w = ⟨#[]⟩ := by
  constructor
  · intro h
    cases w with | mk a =>
    have : a.size = 0 := h
    have : a = #[] := Array.eq_empty_of_size_eq_zero this
    rw [this]
  · rintro rfl; rfl
theorem isEmpty_of_ne {s : ByteArray} (h : s ≠ ⟨#[]⟩) : s.toList.isEmpty = false := by
  rw [ByteArray.toList_eq]
  cases hl : s.data.toList with
  | nil =>
    have h1 : s.size = 0 := by rw [size_eq, hl]; rfl
    exact absurd ((size_zero_iff s).1 h1) h
  | cons => rfl
/-- What is known of a row that came in: its texts have lengths that Go gives. -/
def Sized (l : Row) : Prop := ∀ c ∈ l, c.2.2.size ≤ 140737488355328
theorem Sized.at {l : Row} (h : Sized l) {k : Nat} (hk : k < l.length) : (l[k]!).2.2.size ≤ 140737488355328 := by
  rw [List.getElem!_eq_getElem?_getD, List.getElem?_eq_getElem hk]
  exact h _ (List.getElem_mem hk)

end Go.Proofs.YtmlipcedkgfmiaaDoor
