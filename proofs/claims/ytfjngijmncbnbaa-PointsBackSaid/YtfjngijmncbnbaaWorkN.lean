/-
  work of two to five numbers.
-/
import Derived.Test.YtfjngijmncbnbaaWork
namespace Go.Proofs.Ytfjngijmncbnbaa
open Go.RowKit Go.Lib

theorem work2_any (x y n0 n1 : Int) (hx : InR x) (hy : InR y) (hn0 : InR n0) (hn1 : InR n1) :
    ∀ (w : World) (b : Nat), w.cell? ⟨b, 0, none⟩ = some (.int .i64 n0) → w.cell? ⟨b, 1, none⟩ = some (.int .i64 n1) → b < w.heap.size → Calls Try.prog 17 #[.agg #[.int .i64 x, .int .i64 y], .slice (some ⟨b, 0, none⟩) 2 2] w fun e w' => ∃ q, e = .returned (.pointer (some ⟨q, 0, none⟩)) ∧ w.heap.size ≤ q ∧ WkAt w' q x y ∧ Below w.heap.size w w' := by
  intro w b c0 c1 hb
  refine work_any w b x y [n0, n1] (fun j hj => ?_) hb (Nat.le_of_ble_eq_true rfl) (fun z hz => ?_) hx hy
  · match j, hj with
    | 0, _ => exact c0
    | 1, _ => exact c1
  · simp only [List.mem_cons, List.not_mem_nil, or_false] at hz
    rcases hz with rfl | rfl
    · exact hn0
    · exact hn1

theorem work3_any (x y n0 n1 n2 : Int) (hx : InR x) (hy : InR y) (hn0 : InR n0) (hn1 : InR n1) (hn2 : InR n2) :
    ∀ (w : World) (b : Nat), w.cell? ⟨b, 0, none⟩ = some (.int .i64 n0) → w.cell? ⟨b, 1, none⟩ = some (.int .i64 n1) → w.cell? ⟨b, 2, none⟩ = some (.int .i64 n2) → b < w.heap.size → Calls Try.prog 17 #[.agg #[.int .i64 x, .int .i64 y], .slice (some ⟨b, 0, none⟩) 3 3] w fun e w' => ∃ q, e = .returned (.pointer (some ⟨q, 0, none⟩)) ∧ w.heap.size ≤ q ∧ WkAt w' q x y ∧ Below w.heap.size w w' := by
  intro w b c0 c1 c2 hb
  refine work_any w b x y [n0, n1, n2] (fun j hj => ?_) hb (Nat.le_of_ble_eq_true rfl) (fun z hz => ?_) hx hy
  · match j, hj with
    | 0, _ => exact c0
    | 1, _ => exact c1
    | 2, _ => exact c2
  · simp only [List.mem_cons, List.not_mem_nil, or_false] at hz
    rcases hz with rfl | rfl | rfl
    · exact hn0
    · exact hn1
    · exact hn2

theorem work4_any (x y n0 n1 n2 n3 : Int) (hx : InR x) (hy : InR y) (hn0 : InR n0) (hn1 : InR n1) (hn2 : InR n2) (hn3 : InR n3) :
    ∀ (w : World) (b : Nat), w.cell? ⟨b, 0, none⟩ = some (.int .i64 n0) → w.cell? ⟨b, 1, none⟩ = some (.int .i64 n1) → w.cell? ⟨b, 2, none⟩ = some (.int .i64 n2) → w.cell? ⟨b, 3, none⟩ = some (.int .i64 n3) → b < w.heap.size → Calls Try.prog 17 #[.agg #[.int .i64 x, .int .i64 y], .slice (some ⟨b, 0, none⟩) 4 4] w fun e w' => ∃ q, e = .returned (.pointer (some ⟨q, 0, none⟩)) ∧ w.heap.size ≤ q ∧ WkAt w' q x y ∧ Below w.heap.size w w' := by
  intro w b c0 c1 c2 c3 hb
  refine work_any w b x y [n0, n1, n2, n3] (fun j hj => ?_) hb (Nat.le_of_ble_eq_true rfl) (fun z hz => ?_) hx hy
  · match j, hj with
    | 0, _ => exact c0
    | 1, _ => exact c1
    | 2, _ => exact c2
    | 3, _ => exact c3
  · simp only [List.mem_cons, List.not_mem_nil, or_false] at hz
    rcases hz with rfl | rfl | rfl | rfl
    · exact hn0
    · exact hn1
    · exact hn2
    · exact hn3

theorem work5_any (x y n0 n1 n2 n3 n4 : Int) (hx : InR x) (hy : InR y) (hn0 : InR n0) (hn1 : InR n1) (hn2 : InR n2) (hn3 : InR n3) (hn4 : InR n4) :
    ∀ (w : World) (b : Nat), w.cell? ⟨b, 0, none⟩ = some (.int .i64 n0) → w.cell? ⟨b, 1, none⟩ = some (.int .i64 n1) → w.cell? ⟨b, 2, none⟩ = some (.int .i64 n2) → w.cell? ⟨b, 3, none⟩ = some (.int .i64 n3) → w.cell? ⟨b, 4, none⟩ = some (.int .i64 n4) → b < w.heap.size → Calls Try.prog 17 #[.agg #[.int .i64 x, .int .i64 y], .slice (some ⟨b, 0, none⟩) 5 5] w fun e w' => ∃ q, e = .returned (.pointer (some ⟨q, 0, none⟩)) ∧ w.heap.size ≤ q ∧ WkAt w' q x y ∧ Below w.heap.size w w' := by
  intro w b c0 c1 c2 c3 c4 hb
  refine work_any w b x y [n0, n1, n2, n3, n4] (fun j hj => ?_) hb (Nat.le_of_ble_eq_true rfl) (fun z hz => ?_) hx hy
  · match j, hj with
    | 0, _ => exact c0
    | 1, _ => exact c1
    | 2, _ => exact c2
    | 3, _ => exact c3
    | 4, _ => exact c4
  · simp only [List.mem_cons, List.not_mem_nil, or_false] at hz
    rcases hz with rfl | rfl | rfl | rfl | rfl
    · exact hn0
    · exact hn1
    · exact hn2
    · exact hn3
    · exact hn4

end Go.Proofs.Ytfjngijmncbnbaa
