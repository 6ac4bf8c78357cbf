/-
  A line in a block of its own, as Go boxes it; a line whose rows are its own.
-/
import Derived.Test.YtmlipcedkgfmiaaDoorIConcat
import Derived.Test.YtmlipcedkgfmiaaDoorAppG
namespace Go.Proofs.YtmlipcedkgfmiaaDoor
open Go.RowKit Go.Lib

/-- The line lies in block b. -/
structure BoxAt (w : World) (b : Nat) (q : Int) (sl : Value) (k : Int) (sc : Value) : Prop where
  lt : b < w.heap.size
  c0 : w.cell? ⟨b, 0, none⟩ = some (.int .i64 q)
  c1 : w.cell? ⟨b, 1, none⟩ = some sl
  c2 : w.cell? ⟨b, 2, none⟩ = some (.int .i64 k)
  c3 : w.cell? ⟨b, 3, none⟩ = some sc
  f0 : w.frozen? ⟨b, 0, none⟩ = false
  f1 : w.frozen? ⟨b, 1, none⟩ = false
  f2 : w.frozen? ⟨b, 2, none⟩ = false
  f3 : w.frozen? ⟨b, 3, none⟩ = false
theorem BoxAt.below {w w' : World} {b : Nat} {q k : Int} {sl sc : Value} (h : BoxAt w b q sl k sc) (hb : Below w.heap.size w w') : BoxAt w' b q sl k sc :=
  ⟨Nat.lt_of_lt_of_le h.lt hb.size, (hb.cell (p := ⟨b, 0, none⟩) h.lt).trans h.c0, (hb.cell (p := ⟨b, 1, none⟩) h.lt).trans h.c1, (hb.cell (p := ⟨b, 2, none⟩) h.lt).trans h.c2, (hb.cell (p := ⟨b, 3, none⟩) h.lt).trans h.c3,
    (hb.frozen (p := ⟨b, 0, none⟩) h.lt).trans h.f0, (hb.frozen (p := ⟨b, 1, none⟩) h.lt).trans h.f1, (hb.frozen (p := ⟨b, 2, none⟩) h.lt).trans h.f2, (hb.frozen (p := ⟨b, 3, none⟩) h.lt).trans h.f3⟩
theorem box_new (w : World) (q k : Int) (sl sc : Value) : BoxAt (w.alloc (.cells #[.int .i64 q, sl, .int .i64 k, sc] 25)) w.heap.size q sl k sc := by
  constructor <;> simp [go_sem]
theorem box_two (w : World) (q k q' k' : Int) (sl sc sl' sc' : Value) :
    Below w.heap.size w ((w.alloc (.cells #[.int .i64 q, sl, .int .i64 k, sc] 25)).alloc (.cells #[.int .i64 q', sl', .int .i64 k', sc'] 25)) ∧
    BoxAt ((w.alloc (.cells #[.int .i64 q, sl, .int .i64 k, sc] 25)).alloc (.cells #[.int .i64 q', sl', .int .i64 k', sc'] 25)) w.heap.size q sl k sc ∧
    BoxAt ((w.alloc (.cells #[.int .i64 q, sl, .int .i64 k, sc] 25)).alloc (.cells #[.int .i64 q', sl', .int .i64 k', sc'] 25)) (w.heap.size + 1) q' sl' k' sc' := by
  refine ⟨((Below.refl _ w).alloc (Nat.le_refl _) _).alloc (by simp) _, (box_new w q k sl sc).below ((Below.refl _ _).alloc (Nat.le_refl _) _), ?_⟩
  have h := box_new (w.alloc (.cells #[.int .i64 q, sl, .int .i64 k, sc] 25)) q' k' sl' sc'
  rw [show (w.alloc (.cells #[.int .i64 q, sl, .int .i64 k, sc] 25)).heap.size = w.heap.size + 1 by simp] at h
  exact h

/-- A line whose rows are its own, from block B on. -/
def OwnLn (B : Nat) (w : World) (sl sc : Value) (ls : IRow) (cs : Row) : Prop := w.ownsRow B 3 1 sl ls.length (cellsZ ls) ∧ w.ownsRow B 44 3 sc cs.length (cellsR cs)
theorem OwnLn.below {w w' : World} {B : Nat} {sl sc : Value} {ls : IRow} {cs : Row} (h : OwnLn B w sl sc ls cs) (hb : Below w.heap.size w w') : OwnLn B w' sl sc ls cs := ⟨ownsRow_below h.1 hb, ownsRow_below h.2 hb⟩
theorem OwnLn.mono {w : World} {B C : Nat} {sl sc : Value} {ls : IRow} {cs : Row} (h : OwnLn B w sl sc ls cs) (hC : C ≤ B) : OwnLn C w sl sc ls cs := ⟨h.1.mono hC, h.2.mono hC⟩
/-- A store into a block that is none of a row's. -/
theorem own_setCell {w : World} {B e size n : Nat} {v u : Value} {xs : List Value} {p : Addr} (h : w.ownsRow B e size v n xs) (hp : p.block < B) : (w.setCell p u).ownsRow B e size v n xs :=
  own_other h (fun k hk _ => Below.heap_setCell w p u k (by omega))
theorem own_set2 {w : World} {B e size n : Nat} {v u : Value} {xs : List Value} {p : Addr} (h : w.ownsRow B e size v n xs) (hp : v.ownBlock ≠ some p.block) : (w.setCell p u).ownsRow B e size v n xs := by
  refine ⟨h.1, ?_⟩
  rcases h.2 with h2 | ⟨g, cap, cur, hv, hg, hc, hrest⟩
  · exact .inl h2
  · subst hv
    refine .inr ⟨g, cap, cur, rfl, hg, (Below.heap_setCell w p u g (fun e => hp (by rw [e]; rfl))).trans hc, hrest⟩
/-- What Own does last: its two rows are laid into the line, the line into the answer. -/
theorem six_stores {w w2 : World} {B : Nat} {v1 v2 : Value} {ls : IRow} {cs : Row} (hb : Below w.heap.size w w2) (hB : w.heap.size + 1 < B) (h1 : w2.ownsRow B 3 1 v1 ls.length (cellsZ ls)) (h2 : w2.ownsRow B 44 3 v2 cs.length (cellsR cs)) (u1 u2 u3 u4 u5 u6 : Value) :
    OwnLn w.heap.size ((((((w2.setCell ⟨w.heap.size, 1, none⟩ u1).setCell ⟨w.heap.size, 3, none⟩ u2).setCell ⟨w.heap.size + 1, 0, none⟩ u3).setCell ⟨w.heap.size + 1, 1, none⟩ u4).setCell ⟨w.heap.size + 1, 2, none⟩ u5).setCell ⟨w.heap.size + 1, 3, none⟩ u6) v1 v2 ls cs ∧
    Below w.heap.size w ((((((w2.setCell ⟨w.heap.size, 1, none⟩ u1).setCell ⟨w.heap.size, 3, none⟩ u2).setCell ⟨w.heap.size + 1, 0, none⟩ u3).setCell ⟨w.heap.size + 1, 1, none⟩ u4).setCell ⟨w.heap.size + 1, 2, none⟩ u5).setCell ⟨w.heap.size + 1, 3, none⟩ u6) := by
  have hB0 : w.heap.size < B := by omega
  have e0 : w.heap.size ≤ w.heap.size := Nat.le_refl _
  have e1 : w.heap.size ≤ w.heap.size + 1 := Nat.le_succ _
  refine ⟨⟨World.ownsRow.mono (own_setCell (own_setCell (own_setCell (own_setCell (own_setCell (own_setCell h1 hB0) hB0) hB) hB) hB) hB) (Nat.le_of_lt hB0), World.ownsRow.mono (own_setCell (own_setCell (own_setCell (own_setCell (own_setCell (own_setCell h2 hB0) hB0) hB) hB) hB) hB) (Nat.le_of_lt hB0)⟩, ?_⟩
  exact (((((hb.setCell (p := ⟨w.heap.size, 1, none⟩) e0 _).setCell (p := ⟨w.heap.size, 3, none⟩) e0 _).setCell (p := ⟨w.heap.size + 1, 0, none⟩) e1 _).setCell (p := ⟨w.heap.size + 1, 1, none⟩) e1 _).setCell (p := ⟨w.heap.size + 1, 2, none⟩) e1 _).setCell (p := ⟨w.heap.size + 1, 3, none⟩) e1 _

end Go.Proofs.YtmlipcedkgfmiaaDoor
