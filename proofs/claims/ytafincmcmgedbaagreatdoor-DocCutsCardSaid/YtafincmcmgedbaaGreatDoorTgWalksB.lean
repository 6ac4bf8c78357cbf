/-
  The contracts of the program's and the document's Name.
-/
import Derived.Test.YtafincmcmgedbaaGreatDoorTgWalksA
import Derived.Below
import Derived.LoopTactic
import Derived.Deep.DeepCutAuto
namespace Go.Proofs.YtafincmcmgedbaaGreatDoor.Tg
open Go.RowKit Go.Lib

theorem isEmpty_of_pos {s : ByteArray} (h : 0 < s.size) : s.toList.isEmpty = false := by
  rw [ByteArray.toList_eq]
  cases hl : s.data.toList with
  | nil =>
    have h1 : s.size = 0 := by rw [size_eq, hl]; rfl
    omega
  | cons => rfl
theorem eq_empty {s : ByteArray} (h : s.size = 0) : s = ⟨#[]⟩ := by
  cases s with | mk a =>
  have : a.size = 0 := h
  have : a = #[] := Array.eq_empty_of_size_eq_zero this
  rw [this]
theorem drop_ne {s : ByteArray} {pos : Nat} (h : pos < s.size) : s.data.toList.drop pos ≠ [] := by
  intro h0
  have := congrArg List.length h0
  rw [List.length_drop, ← size_eq] at this
  simp at this; omega
theorem drop_end {s : ByteArray} {pos : Nat} (h : ¬ pos < s.size) : s.data.toList.drop pos = [] :=
  List.drop_eq_nil_of_le (by rw [← size_eq]; omega)
theorem getD_at {s : ByteArray} {k : Nat} (h : k < s.size) : s.data.toList.getD k 0 = s[k] := by
  have : k < s.data.toList.length := by rw [← size_eq]; exact h
  rw [List.getD_eq_getElem?_getD, List.getElem?_eq_getElem this]
  rfl
theorem width_in {s : ByteArray} {pos : Nat} (h : pos < s.size) : pos + (Utf8.decode s pos).2 ≤ s.size := by
  have := decodeL_le _ (drop_ne h)
  rw [decodeL_drop, List.length_drop, ← size_eq] at this
  omega

theorem drop_cons {s : ByteArray} {k : Nat} (h : k < s.size) : s.data.toList.drop k = s[k] :: s.data.toList.drop (k + 1) := by
  have : k < s.data.toList.length := by rw [← size_eq]; exact h
  rw [List.drop_eq_getElem_cons this]; rfl
theorem nameZ_true {c : Int} (h : (97 ≤ c ∧ c ≤ 122) ∨ (48 ≤ c ∧ c ≤ 57) ∨ c = 45) : nameZ c = true := decide_eq_true h
theorem nameZ_false {c : Int} (h : ¬ ((97 ≤ c ∧ c ≤ 122) ∨ (48 ≤ c ∧ c ≤ 57) ∨ c = 45)) : nameZ c = false := decide_eq_false h

end Go.Proofs.YtafincmcmgedbaaGreatDoor.Tg
