/-
  A line that reads; one whose rows may be written over, in blocks of [B, C); what turns nothing but such blocks.
-/
import Derived.Test.YtmlipcedkgfmiaaDoorBox
namespace Go.Proofs.YtmlipcedkgfmiaaDoor
open Go.RowKit Go.Lib

def lnV (q : Int) (sl : Value) (k : Int) (sc : Value) : Value := .agg #[.int .i64 q, sl, .int .i64 k, sc]
/-- The two slices read as the line's rows. -/
structure LnAt (w : World) (sl sc : Value) (ls : IRow) (cs : Row) : Prop where
  z : IntsAt w sl ls
  r : RowAt w sc cs
theorem LnAt.below {w w' : World} {sl sc : Value} {ls : IRow} {cs : Row} (h : LnAt w sl sc ls cs) (hb : Below w.heap.size w w') : LnAt w' sl sc ls cs := ⟨h.z.below hb, h.r.below hb⟩
theorem lnAt_of_own {w : World} {B : Nat} {sl sc : Value} {ls : IRow} {cs : Row} (h : OwnLn B w sl sc ls cs) : LnAt w sl sc ls cs := ⟨intsAt_of_own h.1, rowAt_of_own h.2⟩

structure MineZ (B C : Nat) (w : World) (v : Value) (ls : IRow) : Prop where
  here : IntsAt w v ls
  mine : 0 < ls.length → ∀ g o n c, v = .slice (some ⟨g, o, none⟩) n c → B ≤ g ∧ g < C ∧ ∀ j, j < ls.length → w.frozen? ⟨g, o + j, none⟩ = false
structure MineR (B C : Nat) (w : World) (v : Value) (cs : Row) : Prop where
  here : RowAt w v cs
  mine : 0 < cs.length → ∀ g o n c, v = .slice (some ⟨g, o, none⟩) n c → B ≤ g ∧ g < C ∧ ∀ j, j < cs.length → w.frozen? ⟨g, o + j * 3 + 1, none⟩ = false
/-- A line whose rows may be written over, and lie in two blocks. -/
structure MineLn (B C : Nat) (w : World) (sl sc : Value) (ls : IRow) (cs : Row) : Prop where
  z : MineZ B C w sl ls
  r : MineR B C w sc cs
  ap : 0 < ls.length → 0 < cs.length → ∀ g o n c g' o' n' c', sl = .slice (some ⟨g, o, none⟩) n c → sc = .slice (some ⟨g', o', none⟩) n' c' → g ≠ g'
theorem MineLn.at {B C : Nat} {w : World} {sl sc : Value} {ls : IRow} {cs : Row} (h : MineLn B C w sl sc ls cs) : LnAt w sl sc ls cs := ⟨h.z.here, h.r.here⟩

/-- The blocks of [B, C) are as they were. -/
def Kept (B C : Nat) (w w' : World) : Prop := w.heap.size ≤ w'.heap.size ∧ ∀ k, B ≤ k → k < C → k < w.heap.size → w'.heap[k]? = w.heap[k]?
theorem Kept.cell {B C : Nat} {w w' : World} (h : Kept B C w w') {p : Addr} (h1 : B ≤ p.block) (h2 : p.block < C) (h3 : p.block < w.heap.size) : w'.cell? p = w.cell? p := World.cell?_of_block (w := w) (h.2 p.block h1 h2 h3)
theorem Kept.frozen {B C : Nat} {w w' : World} (h : Kept B C w w') {p : Addr} (h1 : B ≤ p.block) (h2 : p.block < C) (h3 : p.block < w.heap.size) : w'.frozen? p = w.frozen? p := World.frozen?_of_block (w := w) (h.2 p.block h1 h2 h3)
theorem kept_of_below {B C : Nat} {w w' : World} (h : Below w.heap.size w w') : Kept B C w w' := ⟨h.size, fun k _ _ hk => h.block k hk⟩
theorem kept_set {B C : Nat} (w : World) (p : Addr) (u : Value) (h : p.block < B ∨ C ≤ p.block) : Kept B C w (w.setCell p u) :=
  ⟨by simp [World.setCell], fun k h1 h2 _ => Below.heap_setCell w p u k (by omega)⟩
theorem MineZ.kept {B C : Nat} {w w' : World} {v : Value} {ls : IRow} (h : MineZ B C w v ls) (hk : Kept B C w w') : MineZ B C w' v ls := by
  refine ⟨?_, fun hl g o n c e => ?_⟩
  · rcases h.here with h1 | ⟨b, o, c, h1, h2, h3, h4, h5⟩
    · exact .inl h1
    · refine .inr ⟨b, o, c, h1, h2, h3, Nat.lt_of_lt_of_le h4 hk.1, fun j hj => ?_⟩
      obtain ⟨m1, m2, _⟩ := h.mine (by omega) b o ls.length c h1
      exact (hk.cell (p := ⟨b, o + j, none⟩) m1 m2 h4).trans (h5 j hj)
  · obtain ⟨m1, m2, m3⟩ := h.mine hl g o n c e
    refine ⟨m1, m2, fun j hj => ?_⟩
    obtain ⟨b', o', c', h1, _, _, h4, _⟩ := h.here.lies hl
    rw [h1] at e
    simp only [Value.slice.injEq, Option.some.injEq, Addr.mk.injEq, and_true] at e
    obtain ⟨⟨rfl, rfl⟩, _⟩ := e
    exact (hk.frozen (p := ⟨_, _, none⟩) m1 m2 h4).trans (m3 j hj)
theorem MineR.kept {B C : Nat} {w w' : World} {v : Value} {cs : Row} (h : MineR B C w v cs) (hk : Kept B C w w') : MineR B C w' v cs := by
  refine ⟨?_, fun hl g o n c e => ?_⟩
  · rcases h.here with h1 | ⟨b, o, c, h1, h2, h3, h4, h5⟩
    · exact .inl h1
    · refine .inr ⟨b, o, c, h1, h2, h3, Nat.lt_of_lt_of_le h4 hk.1, fun j hj => ?_⟩
      obtain ⟨m1, m2, _⟩ := h.mine (by omega) b o cs.length c h1
      obtain ⟨x1, x2, x3⟩ := h5 j hj
      exact ⟨(hk.cell (p := ⟨b, _, none⟩) m1 m2 h4).trans x1, (hk.cell (p := ⟨b, _, none⟩) m1 m2 h4).trans x2, (hk.cell (p := ⟨b, _, none⟩) m1 m2 h4).trans x3⟩
  · obtain ⟨m1, m2, m3⟩ := h.mine hl g o n c e
    refine ⟨m1, m2, fun j hj => ?_⟩
    obtain ⟨b', o', c', h1, _, _, h4, _⟩ := h.here.lies hl
    rw [h1] at e
    simp only [Value.slice.injEq, Option.some.injEq, Addr.mk.injEq, and_true] at e
    obtain ⟨⟨rfl, rfl⟩, _⟩ := e
    exact (hk.frozen (p := ⟨_, _, none⟩) m1 m2 h4).trans (m3 j hj)
theorem MineZ.mono {B C B' C' : Nat} {w : World} {v : Value} {ls : IRow} (h : MineZ B C w v ls) (hB : B' ≤ B) (hC : C ≤ C') : MineZ B' C' w v ls :=
  ⟨h.here, fun hl g o n c e => ⟨Nat.le_trans hB (h.mine hl g o n c e).1, Nat.lt_of_lt_of_le (h.mine hl g o n c e).2.1 hC, (h.mine hl g o n c e).2.2⟩⟩
theorem MineR.mono {B C B' C' : Nat} {w : World} {v : Value} {cs : Row} (h : MineR B C w v cs) (hB : B' ≤ B) (hC : C ≤ C') : MineR B' C' w v cs :=
  ⟨h.here, fun hl g o n c e => ⟨Nat.le_trans hB (h.mine hl g o n c e).1, Nat.lt_of_lt_of_le (h.mine hl g o n c e).2.1 hC, (h.mine hl g o n c e).2.2⟩⟩
theorem MineLn.mono {B C B' C' : Nat} {w : World} {sl sc : Value} {ls : IRow} {cs : Row} (h : MineLn B C w sl sc ls cs) (hB : B' ≤ B) (hC : C ≤ C') : MineLn B' C' w sl sc ls cs := ⟨h.z.mono hB hC, h.r.mono hB hC, h.ap⟩
theorem MineLn.kept {B C : Nat} {w w' : World} {sl sc : Value} {ls : IRow} {cs : Row} (h : MineLn B C w sl sc ls cs) (hk : Kept B C w w') : MineLn B C w' sl sc ls cs := ⟨h.z.kept hk, h.r.kept hk, h.ap⟩
theorem MineLn.below {B C : Nat} {w w' : World} {sl sc : Value} {ls : IRow} {cs : Row} (h : MineLn B C w sl sc ls cs) (hb : Below w.heap.size w w') : MineLn B C w' sl sc ls cs := h.kept (kept_of_below hb)

theorem frozen_cells {w : World} {g : Nat} {cur : Array Value} {t : TypeId} (h : w.heap[g]? = some (.cells cur t (0, 0))) (j : Nat) : w.frozen? ⟨g, j, none⟩ = false := by
  simp [World.frozen?, h]
theorem mineZ_of_own {B : Nat} {w : World} {v : Value} {ls : IRow} (h : w.ownsRow B 3 1 v ls.length (cellsZ ls)) : MineZ B w.heap.size w v ls := by
  refine ⟨intsAt_of_own h, fun hl g o n c e => ?_⟩
  rcases h.2 with ⟨_, h0⟩ | ⟨g', cap, cur, rfl, hB, hg, _⟩
  · omega
  · simp only [Value.slice.injEq, Option.some.injEq, Addr.mk.injEq, and_true] at e
    obtain ⟨⟨rfl, rfl⟩, _⟩ := e
    exact ⟨hB, (Array.getElem?_eq_some_iff.1 hg).1, fun j _ => frozen_cells hg _⟩
theorem mineR_of_own {B : Nat} {w : World} {v : Value} {cs : Row} (h : w.ownsRow B 44 3 v cs.length (cellsR cs)) : MineR B w.heap.size w v cs := by
  refine ⟨rowAt_of_own h, fun hl g o n c e => ?_⟩
  rcases h.2 with ⟨_, h0⟩ | ⟨g', cap, cur, rfl, hB, hg, _⟩
  · omega
  · simp only [Value.slice.injEq, Option.some.injEq, Addr.mk.injEq, and_true] at e
    obtain ⟨⟨rfl, rfl⟩, _⟩ := e
    exact ⟨hB, (Array.getElem?_eq_some_iff.1 hg).1, fun j _ => frozen_cells hg _⟩
theorem mine_of_own {B : Nat} {w : World} {sl sc : Value} {ls : IRow} {cs : Row} (h : OwnLn B w sl sc ls cs) : MineLn B w.heap.size w sl sc ls cs := by
  refine ⟨mineZ_of_own h.1, mineR_of_own h.2, fun h1 h2 g o n c g' o' n' c' e e' hgg => ?_⟩
  rcases h.1.2 with ⟨_, h0⟩ | ⟨g1, cap1, cur1, e1, _, hg1, _⟩
  · omega
  · rcases h.2.2 with ⟨_, h0⟩ | ⟨g2, cap2, cur2, e2, _, hg2, _⟩
    · omega
    · rw [e1] at e
      rw [e2] at e'
      simp only [Value.slice.injEq, Option.some.injEq, Addr.mk.injEq, and_true] at e e'
      obtain ⟨⟨rfl, _⟩, _⟩ := e
      obtain ⟨⟨rfl, _⟩, _⟩ := e'
      rw [hgg] at hg1
      rw [hg1] at hg2
      have := (Obj.cells.inj (Option.some.inj hg2)).2.1
      exact absurd this (by decide)

/-- Nothing has turned but the blocks of [B, C). -/
structure Twixt (B C : Nat) (w w' : World) : Prop where
  os : w'.os = w.os
  tape : w'.tape = w.tape
  output : w'.output = w.output
  size : w.heap.size ≤ w'.heap.size
  block : ∀ k, k < w.heap.size → (k < B ∨ C ≤ k) → w'.heap[k]? = w.heap[k]?
theorem Twixt.of_below {B C : Nat} {w w' : World} (h : Below w.heap.size w w') : Twixt B C w w' := ⟨h.os, h.tape, h.output, h.size, fun k hk _ => h.block k hk⟩
theorem Twixt.trans {B C : Nat} {a b c : World} (h : Twixt B C a b) (k : Twixt B C b c) : Twixt B C a c :=
  ⟨k.os.trans h.os, k.tape.trans h.tape, k.output.trans h.output, Nat.le_trans h.size k.size, fun i hi ho => (k.block i (Nat.lt_of_lt_of_le hi h.size) ho).trans (h.block i hi ho)⟩
theorem Twixt.set {B C : Nat} {a w : World} (h : Twixt B C a w) {p : Addr} (h1 : B ≤ p.block) (h2 : p.block < C) (u : Value) : Twixt B C a (w.setCell p u) :=
  h.trans ⟨rfl, rfl, rfl, by simp [World.setCell], fun k _ ho => Below.heap_setCell w p u k (by omega)⟩
theorem Twixt.below {B C : Nat} {w w' : World} (h : Twixt B C w w') (hB : B ≤ w.heap.size) : Below B w w' := ⟨h.os, h.tape, h.output, h.size, fun k hk => h.block k (by omega) (.inl hk)⟩
theorem Twixt.kept {B C D : Nat} {w w' : World} (h : Twixt B C w w') (A : Nat) (hA : C ≤ A) : Kept A D w w' := ⟨h.size, fun k h1 _ h3 => h.block k h3 (.inr (by omega))⟩
theorem Twixt.mono {B C B' C' : Nat} {w w' : World} (h : Twixt B C w w') (hB : B' ≤ B) (hC : C ≤ C') : Twixt B' C' w w' := ⟨h.os, h.tape, h.output, h.size, fun k hk ho => h.block k hk (by omega)⟩

theorem BoxAt.far {w : World} {b g j : Nat} {q k : Int} {sl sc : Value} (h : BoxAt w b q sl k sc) (hg : g ≠ b) (u : Value) : BoxAt (w.setCell ⟨g, j, none⟩ u) b q sl k sc := by
  have hk : (w.setCell ⟨g, j, none⟩ u).heap[b]? = w.heap[b]? := Below.heap_setCell w _ _ _ (fun e => hg e.symm)
  obtain ⟨lt, c0, c1, c2, c3, f0, f1, f2, f3⟩ := h
  exact ⟨by simpa [World.setCell] using lt, (World.cell?_of_block (w := w) (a := ⟨b, 0, none⟩) hk).trans c0, (World.cell?_of_block (w := w) (a := ⟨b, 1, none⟩) hk).trans c1, (World.cell?_of_block (w := w) (a := ⟨b, 2, none⟩) hk).trans c2, (World.cell?_of_block (w := w) (a := ⟨b, 3, none⟩) hk).trans c3,
    (World.frozen?_of_block (w := w) (a := ⟨b, 0, none⟩) hk).trans f0, (World.frozen?_of_block (w := w) (a := ⟨b, 1, none⟩) hk).trans f1, (World.frozen?_of_block (w := w) (a := ⟨b, 2, none⟩) hk).trans f2, (World.frozen?_of_block (w := w) (a := ⟨b, 3, none⟩) hk).trans f3⟩

/-! ### a line is stored into a block -/
abbrev put4 (w : World) (r : Nat) (q : Int) (sl : Value) (k : Int) (sc : Value) : World := (((w.setCell ⟨r, 0, none⟩ (.int .i64 q)).setCell ⟨r, 1, none⟩ sl).setCell ⟨r, 2, none⟩ (.int .i64 k)).setCell ⟨r, 3, none⟩ sc
theorem put4_block (w : World) (r : Nat) (q k : Int) (sl sc : Value) (b : Nat) (h : b ≠ r) : (put4 w r q sl k sc).heap[b]? = w.heap[b]? :=
  (Below.heap_setCell _ ⟨r, 3, none⟩ _ b h).trans ((Below.heap_setCell _ ⟨r, 2, none⟩ _ b h).trans ((Below.heap_setCell _ ⟨r, 1, none⟩ _ b h).trans (Below.heap_setCell _ ⟨r, 0, none⟩ _ b h)))
theorem put4_size (w : World) (r : Nat) (q k : Int) (sl sc : Value) : (put4 w r q sl k sc).heap.size = w.heap.size := by simp [World.setCell]
theorem put4_kept {B C : Nat} {w : World} {r : Nat} {q k : Int} {sl sc : Value} (h : r < B ∨ C ≤ r) : Kept B C w (put4 w r q sl k sc) :=
  ⟨Nat.le_of_eq (put4_size _ _ _ _ _ _).symm, fun b h1 h2 _ => put4_block _ _ _ _ _ _ b (by omega)⟩
theorem put4_below {B : Nat} {w w1 : World} {r : Nat} {q k : Int} {sl sc : Value} (h : Below B w w1) (hr : B ≤ r) : Below B w (put4 w1 r q sl k sc) :=
  (((h.setCell (p := ⟨r, 0, none⟩) hr _).setCell (p := ⟨r, 1, none⟩) hr _).setCell (p := ⟨r, 2, none⟩) hr _).setCell (p := ⟨r, 3, none⟩) hr _
theorem put4_own {D : Nat} {w : World} {r : Nat} {q k : Int} {sl sc sl' sc' : Value} {ls : IRow} {cs : Row} (h : OwnLn D w sl' sc' ls cs) (hr : r < D) : OwnLn D (put4 w r q sl k sc) sl' sc' ls cs :=
  ⟨own_setCell (own_setCell (own_setCell (own_setCell h.1 hr) hr) hr) hr, own_setCell (own_setCell (own_setCell (own_setCell h.2 hr) hr) hr) hr⟩
theorem put4_box {w : World} {r : Nat} {q k q' k' : Int} {sl sc sl' sc' : Value} (h : BoxAt w r q' sl' k' sc') : BoxAt (put4 w r q sl k sc) r q sl k sc := by
  obtain ⟨lt, c0, c1, c2, c3, f0, f1, f2, f3⟩ := h
  refine ⟨by simpa [World.setCell] using lt, ?_, ?_, ?_, ?_, ?_, ?_, ?_, ?_⟩ <;> simp [go_sem, *]
theorem put4_far {w : World} {b r : Nat} {q k q' k' : Int} {sl sc sl' sc' : Value} (h : BoxAt w b q' sl' k' sc') (hb : b ≠ r) : BoxAt (put4 w r q sl k sc) b q' sl' k' sc' :=
  (((h.far hb.symm _).far hb.symm _).far hb.symm _).far hb.symm _
theorem LnAt.kept {w w' : World} {sl sc : Value} {ls : IRow} {cs : Row} (h : LnAt w sl sc ls cs) (hs : w.heap.size ≤ w'.heap.size) (hk : ∀ g o n c, (sl = .slice (some ⟨g, o, none⟩) n c ∧ 0 < ls.length) ∨ (sc = .slice (some ⟨g, o, none⟩) n c ∧ 0 < cs.length) → w'.heap[g]? = w.heap[g]?) : LnAt w' sl sc ls cs := by
  refine ⟨?_, ?_⟩
  · rcases h.z with h1 | ⟨b, o, c, h1, h2, h3, h4, h5⟩
    · exact .inl h1
    · refine .inr ⟨b, o, c, h1, h2, h3, Nat.lt_of_lt_of_le h4 hs, fun j hj => ?_⟩
      exact (World.cell?_of_block (w := w) (a := ⟨b, _, none⟩) (hk _ _ _ _ (.inl ⟨h1, by omega⟩))).trans (h5 j hj)
  · rcases h.r with h1 | ⟨b, o, c, h1, h2, h3, h4, h5⟩
    · exact .inl h1
    · refine .inr ⟨b, o, c, h1, h2, h3, Nat.lt_of_lt_of_le h4 hs, fun j hj => ?_⟩
      have e := hk _ _ _ _ (.inr ⟨h1, by omega⟩)
      obtain ⟨x1, x2, x3⟩ := h5 j hj
      exact ⟨(World.cell?_of_block (w := w) (a := ⟨b, _, none⟩) e).trans x1, (World.cell?_of_block (w := w) (a := ⟨b, _, none⟩) e).trans x2, (World.cell?_of_block (w := w) (a := ⟨b, _, none⟩) e).trans x3⟩

end Go.Proofs.YtmlipcedkgfmiaaDoor
