/-
  Two places, laid into two variables, in whatever order these are made.
-/
import Derived.Test.YtfjngijmncbnbaaAw
namespace Go.Proofs.Ytfjngijmncbnbaa
open Go.RowKit Go.Lib

/-- A place in block p. -/
structure PlAt (w : World) (p : Nat) (x y : Int) : Prop where
  c0 : w.cell? ⟨p, 0, none⟩ = some (.int .i64 x)
  c1 : w.cell? ⟨p, 1, none⟩ = some (.int .i64 y)
theorem PlAt.lt {w : World} {p : Nat} {x y : Int} (h : PlAt w p x y) : p < w.heap.size := lt_of_cell' h.1
theorem PlAt.below {w w' : World} {p : Nat} {x y : Int} (h : PlAt w p x y) (hb : Below w.heap.size w w') : PlAt w' p x y :=
  ⟨(hb.cell (p := ⟨p, 0, none⟩) h.lt).trans h.1, (hb.cell (p := ⟨p, 1, none⟩) h.lt).trans h.2⟩
abbrev put2 (w : World) (p : Nat) (x y : Int) : World := (w.setCell ⟨p, 0, none⟩ (.int .i64 x)).setCell ⟨p, 1, none⟩ (.int .i64 y)
theorem put2_size (w : World) (p : Nat) (x y : Int) : (put2 w p x y).heap.size = w.heap.size := by simp [put2, World.setCell]
theorem put2_at {w : World} {p : Nat} {x y x0 y0 : Int} (h : PlAt w p x0 y0) : PlAt (put2 w p x y) p x y := by
  have h0 := h.1
  have h1 := h.2
  have hp := h.lt
  constructor
  · simp [put2, go_sem, *]
  · simp [put2, go_sem, *]
theorem put2_far {w : World} {p r : Nat} {x y x0 y0 : Int} (h : PlAt w p x0 y0) (hne : p ≠ r) : PlAt (put2 w r x y) p x0 y0 := by
  constructor
  · exact (World.cell?_of_block (w := w) ((Below.heap_setCell _ _ _ _ hne).trans (Below.heap_setCell _ _ _ _ hne))).trans h.1
  · exact (World.cell?_of_block (w := w) ((Below.heap_setCell _ _ _ _ hne).trans (Below.heap_setCell _ _ _ _ hne))).trans h.2
theorem put2_below {B r : Nat} {W w : World} {x y : Int} (h : Below B W w) (hr : B ≤ r) : Below B W (put2 w r x y) := (h.setCell (p := ⟨r, 0, none⟩) hr _).setCell (p := ⟨r, 1, none⟩) hr _
theorem pl_new (w : World) (x y : Int) : PlAt (w.alloc (.cells #[.int .i64 x, .int .i64 y] 23)) w.heap.size x y := ⟨by simp [go_sem], by simp [go_sem]⟩

def TwoP (B : Nat) (W : World) (s7 s8 : Value) (x1 y1 x2 y2 : Int) (wx : World) : Prop :=
  ∃ p7 p8, s7 = .pointer (some ⟨p7, 0, none⟩) ∧ s8 = .pointer (some ⟨p8, 0, none⟩) ∧ PlAt wx p7 x1 y1 ∧ PlAt wx p8 x2 y2 ∧ Below B W wx

section
variable {B p7 p8 : Nat} {W w4 : World} {x1 y1 x2 y2 a1 b1 a2 b2 : Int}
theorem two_put (hb : Below B W w4) (h7 : PlAt w4 p7 a1 b1) (h8 : PlAt w4 p8 a2 b2) (hne : p7 ≠ p8) (h7B : B ≤ p7) (h8B : B ≤ p8) :
    TwoP B W (.pointer (some ⟨p7, 0, none⟩)) (.pointer (some ⟨p8, 0, none⟩)) x1 y1 x2 y2 (put2 (put2 w4 p7 x1 y1) p8 x2 y2) :=
  ⟨p7, p8, rfl, rfl, put2_far (put2_at h7) hne, put2_at (put2_far h8 (Ne.symm hne)), put2_below (put2_below hb h7B) h8B⟩
theorem two_mix7 (hb : Below B W w4) (h7 : PlAt w4 p7 a1 b1) (h7B : B ≤ p7) (h8B : B ≤ w4.heap.size) :
    TwoP B W (.pointer (some ⟨p7, 0, none⟩)) (.pointer (some ⟨w4.heap.size, 0, none⟩)) x1 y1 x2 y2 ((put2 w4 p7 x1 y1).alloc (.cells #[.int .i64 x2, .int .i64 y2] 23)) := by
  have hs := put2_size w4 p7 x1 y1
  have A := (Below.refl (put2 w4 p7 x1 y1).heap.size (put2 w4 p7 x1 y1)).alloc (Nat.le_refl _) (.cells #[.int .i64 x2, .int .i64 y2] 23)
  have hx := pl_new (put2 w4 p7 x1 y1) x2 y2
  rw [hs] at hx
  exact ⟨p7, _, rfl, rfl, (put2_at h7).below A, hx, (put2_below hb h7B).trans (A.mono (by rw [hs]; exact h8B))⟩
theorem two_mix8 (hb : Below B W w4) (h8 : PlAt w4 p8 a2 b2) (h8B : B ≤ p8) (h7B : B ≤ w4.heap.size) :
    TwoP B W (.pointer (some ⟨w4.heap.size, 0, none⟩)) (.pointer (some ⟨p8, 0, none⟩)) x1 y1 x2 y2 ((put2 w4 p8 x2 y2).alloc (.cells #[.int .i64 x1, .int .i64 y1] 23)) := by
  have hs := put2_size w4 p8 x2 y2
  have A := (Below.refl (put2 w4 p8 x2 y2).heap.size (put2 w4 p8 x2 y2)).alloc (Nat.le_refl _) (.cells #[.int .i64 x1, .int .i64 y1] 23)
  have hx := pl_new (put2 w4 p8 x2 y2) x1 y1
  rw [hs] at hx
  exact ⟨_, p8, rfl, rfl, hx, (put2_at h8).below A, (put2_below hb h8B).trans (A.mono (by rw [hs]; exact h7B))⟩
theorem two_new78 (hb : Below B W w4) (hB : B ≤ w4.heap.size) :
    TwoP B W (.pointer (some ⟨w4.heap.size, 0, none⟩)) (.pointer (some ⟨w4.heap.size + 1, 0, none⟩)) x1 y1 x2 y2 ((w4.alloc (.cells #[.int .i64 x1, .int .i64 y1] 23)).alloc (.cells #[.int .i64 x2, .int .i64 y2] 23)) :=
  ⟨_, _, rfl, rfl, ⟨by simp [go_sem], by simp [go_sem]⟩, ⟨by simp [go_sem], by simp [go_sem]⟩, (hb.alloc hB _).alloc (by simp; omega) _⟩
theorem two_new87 (hb : Below B W w4) (hB : B ≤ w4.heap.size) :
    TwoP B W (.pointer (some ⟨w4.heap.size + 1, 0, none⟩)) (.pointer (some ⟨w4.heap.size, 0, none⟩)) x1 y1 x2 y2 ((w4.alloc (.cells #[.int .i64 x2, .int .i64 y2] 23)).alloc (.cells #[.int .i64 x1, .int .i64 y1] 23)) :=
  ⟨_, _, rfl, rfl, ⟨by simp [go_sem], by simp [go_sem]⟩, ⟨by simp [go_sem], by simp [go_sem]⟩, (hb.alloc hB _).alloc (by simp; omega) _⟩
end
theorem bcell {B : Nat} {W w1 : World} (hb : Below W.heap.size W w1) : (∀ b o, B ≤ b → b < W.heap.size → w1.cell? ⟨b, o, none⟩ = W.cell? ⟨b, o, none⟩) ∧ (∀ b o, B ≤ b → b < W.heap.size → w1.frozen? ⟨b, o, none⟩ = W.frozen? ⟨b, o, none⟩) :=
  ⟨fun b o _ h => hb.cell (p := ⟨b, o, none⟩) h, fun b o _ h => hb.frozen (p := ⟨b, o, none⟩) h⟩
theorem rem_same (n k f : Int) : remP n k n f false = (n, if f < k then k - 1 else k) := by
  unfold remP
  simp only [decide_true, Bool.true_and, decide_eq_true_eq, Bool.false_eq_true, if_false]
  split <;> rfl
theorem ins_same (n k f c : Int) : insP n k n f c = (n, if f < k then k + c else k) := by
  unfold insP
  simp only [decide_true, Bool.true_and, decide_eq_true_eq]
  split <;> rfl
theorem rep_same (n k f c m : Int) : repP n k n f c m = (n, if f < k then (if c < k - f then k + (m - c) else f) else k) := by
  unfold repP
  simp only [decide_true, Bool.true_and, decide_eq_true_eq]
  split
  · split <;> rfl
  · rfl

end Go.Proofs.Ytfjngijmncbnbaa
