/-
  What all calls ask first: asking's closure, for each thing that is done to a line.
  The program's Indent, Outdent, Free, List, Format.
-/
import Derived.Test.YtafincmcmgedbaaGreatDoorCLMay
import Derived.Test.YtafincmcmgedbaaGreatDoorCDoC

namespace Go.Proofs.YtafincmcmgedbaaGreatDoor
open Go.RowKit Go.Lib

/-- What a call answers: a code, and a line whose rows are new. -/
def AskPost (r : Int × Ln) (w : World) (e : Ending) (w' : World) : Prop :=
  ∃ sl sc, e = .returned (.tuple #[.agg #[.int .i64 r.2.q, sl, .int .i64 r.2.k, sc], .int .i64 r.1]) ∧ MineLn w.heap.size w'.heap.size w' sl sc r.2.ls r.2.cs ∧ Below w.heap.size w w'
theorem mine_nil (B C : Nat) (w : World) : MineLn B C w (.slice none 0 0) (.slice none 0 0) [] [] :=
  ⟨⟨.inl ⟨none, 0, rfl, fun _ => rfl, by decide, rfl⟩, fun h => absurd h (by decide)⟩, ⟨.inl ⟨none, 0, rfl, fun _ => rfl, by decide, rfl⟩, fun h => absurd h (by decide)⟩, fun h => absurd h (by decide)⟩
theorem mine_put4 {A B C r : Nat} {w1 : World} {q k : Int} {s c sl sc : Value} {ls : IRow} {cs : Row} (h : MineLn B C w1 sl sc ls cs) (hC : C ≤ w1.heap.size) (hA : A ≤ B) (hr : r < B) : MineLn A (put4 w1 r q s k c).heap.size (put4 w1 r q s k c) sl sc ls cs :=
  (h.kept (put4_kept (.inl hr))).mono hA (by rw [put4_size]; exact hC)

end Go.Proofs.YtafincmcmgedbaaGreatDoor

namespace Go.Proofs.YtafincmcmgedbaaGreatDoor
open Go.RowKit Go.Lib

/-- What is done to a line that may be. -/
def opS (f : Ln → Int × Ln) (L : Ln) : Int × Ln := if mayS L = true then f L else (1, ln0)
def listK (kind : Int) (L : Ln) : Int × Ln := if upB kind 1 = true then listS kind L else (1, ln0)
def formatK (kind : Int) (L : Ln) : Int × Ln := if upB kind 3 = true then formatS kind L else (1, ln0)
theorem indentS_err (L : Ln) : (indentS L).1 ≠ 0 → (indentS L).2 = ln0 := by unfold indentS; split <;> (try split) <;> simp
theorem outdentS_err (L : Ln) : (outdentS L).1 ≠ 0 → (outdentS L).2 = ln0 := by unfold outdentS; split <;> (try split) <;> simp
theorem freeS_err (L : Ln) : (freeS L).1 ≠ 0 → (freeS L).2 = ln0 := by unfold freeS; split <;> first | exact outdentS_err L | simp
theorem listK_err (kind : Int) (L : Ln) : (listK kind L).1 ≠ 0 → (listK kind L).2 = ln0 := by unfold listK listS; split <;> (try split) <;> (try split) <;> simp
theorem formatK_err (kind : Int) (L : Ln) : (formatK kind L).1 ≠ 0 → (formatK kind L).2 = ln0 := by unfold formatK formatS; split <;> (try split) <;> simp
theorem mayS_facts {q k : Int} {ls : IRow} {cs : Row} (h : mayS ⟨q, ls, k, cs⟩ = true) : (0 ≤ q ∧ q ≤ 6) ∧ ls.length ≤ 6 := by
  unfold mayS at h
  simp only [Bool.and_eq_true] at h
  obtain ⟨⟨⟨h1, h2⟩, _⟩, _⟩ := h
  unfold upB at h1
  unfold listsB at h2
  simp only [Bool.and_eq_true, decide_eq_true_eq] at h1 h2
  exact ⟨h1, h2.1⟩

theorem asking_any (F : Fn) (caps : Array Value) (w : World) : Calls Tryz.prog 113 #[.func F #[] caps] w fun e w' => e = .returned (.func (.func 133) #[] #[.pointer (some ⟨w.heap.size, 0, none⟩)]) ∧ w' = w.alloc (.cells #[.func F #[] caps] 115) := by
  go_enter Tryz.func113, Tryz.ntmps113
  go_wp2
  go_ret
  exact ⟨rfl, rfl⟩

theorem box_three (w : World) (q k q' k' x : Int) (sl sc sl' sc' : Value) :
    Below w.heap.size w (((w.alloc (.cells #[.int .i64 q, sl, .int .i64 k, sc] 46)).alloc (.cells #[.int .i64 x] 3)).alloc (.cells #[.int .i64 q', sl', .int .i64 k', sc'] 46)) ∧
    BoxAt (((w.alloc (.cells #[.int .i64 q, sl, .int .i64 k, sc] 46)).alloc (.cells #[.int .i64 x] 3)).alloc (.cells #[.int .i64 q', sl', .int .i64 k', sc'] 46)) w.heap.size q sl k sc ∧
    BoxAt (((w.alloc (.cells #[.int .i64 q, sl, .int .i64 k, sc] 46)).alloc (.cells #[.int .i64 x] 3)).alloc (.cells #[.int .i64 q', sl', .int .i64 k', sc'] 46)) (w.heap.size + 1 + 1) q' sl' k' sc' ∧
    (((w.alloc (.cells #[.int .i64 q, sl, .int .i64 k, sc] 46)).alloc (.cells #[.int .i64 x] 3)).alloc (.cells #[.int .i64 q', sl', .int .i64 k', sc'] 46)).cell? ⟨w.heap.size + 1, 0, none⟩ = some (.int .i64 x) := by
  refine ⟨(((Below.refl _ w).alloc (Nat.le_refl _) _).alloc (by simp) _).alloc (by simp; omega) _, (box_new w q k sl sc).below (((Below.refl _ _).alloc (Nat.le_refl _) _).alloc (by simp) _), ?_, by simp [go_sem]⟩
  have h := box_new ((w.alloc (.cells #[.int .i64 q, sl, .int .i64 k, sc] 46)).alloc (.cells #[.int .i64 x] 3)) q' k' sl' sc'
  rw [show ((w.alloc (.cells #[.int .i64 q, sl, .int .i64 k, sc] 46)).alloc (.cells #[.int .i64 x] 3)).heap.size = w.heap.size + 1 + 1 by simp] at h
  exact h

end Go.Proofs.YtafincmcmgedbaaGreatDoor
