/-
  The program's and the document's Same.
-/
import Derived.Test.YtehjfcefkiglaaaDoorCRow
import Derived.Test.YtehjfcefkiglaaaDoorShelf
import Derived.Laws.StructEq
import Derived.Deep.QuietTactic
import Derived.BigQuiet

namespace Go.Proofs.YtehjfcefkiglaaaDoor
open Go.RowKit Go.Lib

def eqC (x y : Ce) : Bool := decide (x = y)
def sameR (l m : Row) : Bool := decide (l = m)
theorem allEq_same : ∀ l m : Row, allEq eqC l m = sameR l m
  | [], [] => rfl
  | [], _ :: _ => by simp [allEq, sameR]
  | _ :: _, [] => by simp [allEq, sameR]
  | x :: l, y :: m => by
    have ih := allEq_same l m
    unfold allEq
    rw [ih]
    unfold sameR eqC
    rw [Bool.eq_iff_iff]
    simp

theorem neqC : NeqAt Tryd.prog 41 (fun (x : Ce) => .agg (encC x).toArray) eqC := by
  refine ⟨fun x y w => ?_, GuardAt.agg _ (by kernel_rfl)⟩
  obtain ⟨x1, x2, x3⟩ := x
  obtain ⟨y1, y2, y3⟩ := y
  have u3 := Tryd.underlying9
  have a3 := Tryd.isAgg9
  have z3 := Tryd.sizeOf9
  have hS : Tryd.prog.underlying 41 = some (.struct (Tryd.prog.fieldsOf 41)) := by kernel_rfl
  have hp : Tryd.prog.stoodInHeld 41 = false := by kernel_rfl
  have he : eqC (x1, x2, x3) (y1, y2, y3) = (decide (x1 = y1) && (decide (x2 = y2) && (x3.toList == y3.toList))) := by
    rw [str_eq]; unfold eqC; rw [Bool.eq_iff_iff]; simp
  rw [he]
  simp only [encC]
  rw [run_neq_struct, show (10000 : Nat) = 9999 + 1 from rfl, run_equalIn_agg w 9999 41 _ _ hS hp]
  simp only [Program.fieldsOf, Tryd.underlying41]
  go_simp
  by_cases h0 : x1 = y1 <;> by_cases h1 : x2 = y2 <;> cases h2 : x3.toList == y3.toList <;> simp_all

/-! ### the document's -/
theorem dropR_cons {l : Row} {k : Nat} (h : k < l.length) : l.drop k = l[k]! :: l.drop (k + 1) := by
  rw [List.drop_eq_getElem_cons h, List.getElem!_eq_getElem?_getD, List.getElem?_eq_getElem h]; rfl
theorem same_step {l m : Row} {k : Nat} (h1 : k < l.length) (h2 : k < m.length) : sameR (l.drop k) (m.drop k) = (decide (l[k]! = m[k]!) && sameR (l.drop (k + 1)) (m.drop (k + 1))) := by
  rw [dropR_cons h1, dropR_cons h2]
  unfold sameR
  rw [Bool.eq_iff_iff]
  simp only [List.cons.injEq, decide_eq_true_eq, Bool.and_eq_true]

end Go.Proofs.YtehjfcefkiglaaaDoor
