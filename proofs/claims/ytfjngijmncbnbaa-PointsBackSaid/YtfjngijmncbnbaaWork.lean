/-
  A place that is worked on: work, in, above, put.
-/
import Derived.Test.YtfjngijmncbnbaaNum
namespace Go.Proofs.Ytfjngijmncbnbaa
open Go.RowKit Go.Lib

theorem ints2 {w : World} {b : Nat} {x y : Int} (h0 : w.cell? ⟨b, 0, none⟩ = some (.int .i64 x)) (h1 : w.cell? ⟨b, 1, none⟩ = some (.int .i64 y)) : Ints w b [x, y] := fun j hj => by
  match j, hj with
  | 0, _ => exact h0
  | 1, _ => exact h1
theorem ints3 {w : World} {b : Nat} {x y z : Int} (h0 : w.cell? ⟨b, 0, none⟩ = some (.int .i64 x)) (h1 : w.cell? ⟨b, 1, none⟩ = some (.int .i64 y)) (h2 : w.cell? ⟨b, 2, none⟩ = some (.int .i64 z)) : Ints w b [x, y, z] := fun j hj => by
  match j, hj with
  | 0, _ => exact h0
  | 1, _ => exact h1
  | 2, _ => exact h2
theorem Ints.below {w w' : World} {b : Nat} {l : List Int} (h : Ints w b l) (hb : b < w.heap.size) (hw : Below w.heap.size w w') : Ints w' b l := fun j hj =>
  (hw.cell (p := ⟨b, j, none⟩) hb).trans (h j hj)

theorem lt_of_cell' {w : World} {a : Addr} {v : Value} (h : w.cell? a = some v) : a.block < w.heap.size := by
  obtain ⟨o, ho, _⟩ := cells_of_cell h
  exact (Array.getElem?_eq_some_iff.1 ho).1
/-- The place {x, y} is worked on in block q. -/
structure WkAt (w : World) (q : Nat) (x y : Int) : Prop where
  c0 : w.cell? ⟨q, 0, none⟩ = some (.int .i64 x)
  c1 : w.cell? ⟨q, 1, none⟩ = some (.int .i64 y)
  c2 : w.cell? ⟨q, 2, none⟩ = some (.bool false)
  f0 : w.frozen? ⟨q, 0, none⟩ = false
  f1 : w.frozen? ⟨q, 1, none⟩ = false

set_option maxRecDepth 20000 in
theorem work_any (w : World) (b : Nat) (x y : Int) (l : List Int) (h : Ints w b l) (hb : b < w.heap.size) (hl : l.length ≤ 10) (hr : ∀ x ∈ l, InR x) (hx : InR x) (hy : InR y) :
    Calls Try.prog 17 #[.agg #[.int .i64 x, .int .i64 y], .slice (some ⟨b, 0, none⟩) l.length l.length] w fun e w' => ∃ q, e = .returned (.pointer (some ⟨q, 0, none⟩)) ∧ w.heap.size ≤ q ∧ WkAt w' q x y ∧ Below w.heap.size w w' := by
  have hr2 : ∀ z ∈ [x, y], InR z := by
    intro z hz
    simp only [List.mem_cons, List.not_mem_nil, or_false] at hz
    rcases hz with rfl | rfl
    · exact hx
    · exact hy
  have c1 : ∀ w', Below w.heap.size w w' → Calls Try.prog 21 #[.slice (some ⟨b, 0, none⟩) l.length l.length] w' fun e w2 => e = .returned (.bool false) ∧ w2 = w' := fun w' hw => beyond_any w' b l (h.below hb hw) hl hr
  have c2 : ∀ w' b, w'.cell? ⟨b, 0, none⟩ = some (.int .i64 x) → w'.cell? ⟨b, 1, none⟩ = some (.int .i64 y) → Calls Try.prog 21 #[.slice (some ⟨b, 0, none⟩) 2 2] w' fun e w2 => e = .returned (.bool false) ∧ w2 = w' := fun w' b h0 h1 => beyond_any w' b [x, y] (ints2 h0 h1) (Nat.le_of_ble_eq_true rfl) hr2
  obtain ⟨n, hn⟩ : ∃ n, l.length = n := ⟨_, rfl⟩
  rw [hn] at c1 ⊢
  clear h hr hx hy hr2 hl hn
  go_enter Try.func17, Try.ntmps17
  go_upto_region 1 with (fail)
  obtain ⟨W, hW⟩ : ∃ W, w.alloc (.cells #[.int .i64 x, .int .i64 y] 23) = W := ⟨_, rfl⟩
  have hb1 : Below w.heap.size w W := by rw [← hW]; exact (Below.refl _ _).alloc (Nat.le_refl _) _
  have hsz : W.heap.size = w.heap.size + 1 := by rw [← hW]; simp
  have x0 : W.cell? ⟨w.heap.size, 0, none⟩ = some (.int .i64 x) := by rw [← hW]; simp [go_sem]
  have x1 : W.cell? ⟨w.heap.size, 1, none⟩ = some (.int .i64 y) := by rw [← hW]; simp [go_sem]
  rw [hW]
  have HW := Lib.hid hW
  have hS : (W.cell? ⟨w.heap.size, 0, none⟩ = some (.int .i64 x) ∧ W.cell? ⟨w.heap.size, 1, none⟩ = some (.int .i64 y)) := ⟨x0, x1⟩
  have KS : Hid (∀ w', Below W.heap.size W w' → (w'.cell? ⟨w.heap.size, 0, none⟩ = some (.int .i64 x) ∧ w'.cell? ⟨w.heap.size, 1, none⟩ = some (.int .i64 y))) := Lib.hid (fun w' h => ⟨(h.cell (lt_of_cell' x0)).trans x0, (h.cell (lt_of_cell' x1)).trans x1⟩)
  have hB := Lib.hid hb1
  clear hW hb1 x0 x1
  go_region_held3 (fun w' => (w'.cell? ⟨w.heap.size, 0, none⟩ = some (.int .i64 x) ∧ w'.cell? ⟨w.heap.size, 1, none⟩ = some (.int .i64 y))) (first | (with_reducible exact hS) | (refine KS.out _ ?_; (repeat (first | (with_reducible exact Below.refl _ _) | (with_reducible refine Below.drew ?_) | (with_reducible refine Below.alloc ?_ ?_ _) | (with_reducible refine Below.setCell ?_ ?_ _) | omega | (simp <;> omega))); done)) (first
    | (go_at_call 21; ((with_reducible refine (c1 _ (hB.out.trans ((show Below W.heap.size W _ by (repeat (first | (with_reducible exact Below.refl _ _) | (with_reducible refine Below.drew ?_) | (with_reducible refine Below.alloc ?_ ?_ _) | (with_reducible refine Below.setCell ?_ ?_ _) | omega | (simp <;> omega)))).mono (by omega)))).mono ?_); rintro e w1 ⟨rfl, rfl⟩))
    | (go_at_call 21; ((with_reducible refine (c2 _ _ (by simp [go_sem, hsz]) (by simp [go_sem, hsz])).mono ?_); rintro e w1 ⟨rfl, rfl⟩)))
  all_goals go_wp2_with fail
  all_goals go_ret
  all_goals exact ⟨w.heap.size + 1 + 1, rfl, by omega, ⟨by simp [go_sem, hsz], by simp [go_sem, hsz], by simp [go_sem, hsz], by simp [go_sem, hsz], by simp [go_sem, hsz]⟩, hB.out.trans ((show Below W.heap.size W _ by (repeat (first | (with_reducible exact Below.refl _ _) | (with_reducible refine Below.drew ?_) | (with_reducible refine Below.alloc ?_ ?_ _) | (with_reducible refine Below.setCell ?_ ?_ _) | omega | (simp <;> omega)))).mono (by omega))⟩

theorem WkAt.below {w w' : World} {q : Nat} {x y : Int} (h : WkAt w q x y) (hw : Below w.heap.size w w') : WkAt w' q x y := by
  have hq := lt_of_cell' h.c0
  exact ⟨(hw.cell (p := ⟨q, 0, none⟩) hq).trans h.c0, (hw.cell (p := ⟨q, 1, none⟩) hq).trans h.c1, (hw.cell (p := ⟨q, 2, none⟩) hq).trans h.c2, (hw.frozen (p := ⟨q, 0, none⟩) hq).trans h.f0, (hw.frozen (p := ⟨q, 1, none⟩) hq).trans h.f1⟩

theorem in_any (w : World) (q : Nat) (x y n : Int) (h : WkAt w q x y) :
    Calls Try.prog 20 #[.pointer (some ⟨q, 0, none⟩), .int .i64 n] w fun e w' => e = .returned (.bool (decide (x = n))) ∧ w' = w := by
  obtain ⟨c0, c1, c2, _, _⟩ := h
  go_enter Try.func20, Try.ntmps20
  go_wp2
  go_ret
  exact ⟨rfl, rfl⟩

theorem above_any (w : World) (q : Nat) (x y n a : Int) (h : WkAt w q x y) :
    Calls Try.prog 19 #[.pointer (some ⟨q, 0, none⟩), .int .i64 n, .int .i64 a] w fun e w' => e = .returned (.bool (decide (x = n) && decide (a < y))) ∧ w' = w := by
  have cI := in_any w q x y n h
  obtain ⟨c0, c1, c2, _, _⟩ := h
  by_cases hx : x = n
  · have d1 : decide (x = n) = true := decide_eq_true hx
    rw [d1] at cI ⊢
    clear d1 hx
    go_enter Try.func19, Try.ntmps19
    go_wp2_with (go_at_call 20; ((with_reducible refine cI.mono ?_); rintro e w1 ⟨rfl, rfl⟩))
    go_ret
    exact ⟨rfl, rfl⟩
  · have d1 : decide (x = n) = false := decide_eq_false hx
    rw [d1] at cI ⊢
    clear d1 hx
    go_enter Try.func19, Try.ntmps19
    go_wp2_with (go_at_call 20; ((with_reducible refine cI.mono ?_); rintro e w1 ⟨rfl, rfl⟩))
    go_ret
    exact ⟨rfl, rfl⟩

theorem put_any (w : World) (q : Nat) (x y n a : Int) (h : WkAt w q x y) :
    Calls Try.prog 18 #[.pointer (some ⟨q, 0, none⟩), .int .i64 n, .int .i64 a] w fun e w' => e = .returned (.tuple #[]) ∧ WkAt w' q n a ∧ (∀ p : Addr, p.block ≠ q → w'.cell? p = w.cell? p) ∧ (∀ p : Addr, p.block ≠ q → w'.frozen? p = w.frozen? p) ∧ w'.heap.size = w.heap.size ∧ ∀ B, B ≤ q → Below B w w' := by
  have hq := lt_of_cell' h.c0
  obtain ⟨c0, c1, c2, f0, f1⟩ := h
  go_enter Try.func18, Try.ntmps18
  go_wp2
  refine bodyPost_end (v := .tuple #[]) ?_ rfl ?_
  · simp [results, Try.results18, go_sem]
  · refine ⟨rfl, ⟨by simp [go_sem, *], by simp [go_sem, *], by simp [go_sem, *], by simp [go_sem, *], by simp [go_sem, *]⟩, fun p hp => ?_, fun p hp => ?_, by simp [World.setCell], fun B hB => ((Below.refl _ _).setCell hB _).setCell hB _⟩
    · exact World.cell?_of_block (w := w) ((Below.heap_setCell _ _ _ _ hp).trans (Below.heap_setCell _ _ _ _ hp))
    · exact World.frozen?_of_block (w := w) ((Below.heap_setCell _ _ _ _ hp).trans (Below.heap_setCell _ _ _ _ hp))

end Go.Proofs.Ytfjngijmncbnbaa
