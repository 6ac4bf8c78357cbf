/-
  append(s, m..) onto a row of one's own, behind a guard, or as a step of a region that draws.
  A line in a block of its own, as Go boxes it; a line whose rows are its own.
  A line that reads; one whose rows may be written over, in blocks of [B, C); what turns nothing but such blocks.
  Slices of lines: in memory, read where they lie; owned; whose lines may be written over.
  Documents and places in them: plain.
  What stands between two places, line by line: plain.
  Appending lines to lines of one's own; Go's Grow and Concat at slices of lines.
  What is done to a line of its own: outdent, list, Format's, free.
  What is done to a line of its own: list, List's; Join's.
  All places of a document, in order: plain.
  Ints written over by ints, in blocks from B on.
-/
import Derived.Test.YtafincmcmgedbaaGreatDoorCConcat
import Derived.Deep.RegionLaw
import Derived.Deep.AppendLies
import Derived.Test.YtafincmcmgedbaaGreatDoorShelf
import Derived.IntWalk

namespace Go.Proofs.YtafincmcmgedbaaGreatDoor
open Go.RowKit Go.Lib

/-- append(s, m..) onto a row of one's own, as a step of a region that draws. -/
theorem step_append_rowG {ops : Array Oper} {o : Oper} {a : Act} {K : Act → World → Prop} {Q : Exit → Act → World → Prop} {E : Prop} {w : World} (hw : Region.wanted o (yielded ops a.tmps) = true) (s x : Operand)
    (ho : o.op = .call { callee := .builtin .append, args := #[s, x], argTypes := #[43, 43] })
    (base : Nat) (v : Value) (l : Row) (hs : a.eval s = v) (hown : w.ownsRow base 66 3 v l.length (cellsR l)) (u : Value) (m : Row) (hx : a.eval x = u) (hu : RowAt w u m)
    (hb : l.length + m.length ≤ 1000000) (hbase : base ≤ w.heap.size)
    (h : ∀ v' w', w'.ownsRow base 66 3 v' (l ++ m).length (cellsR (l ++ m)) → w.grownBy w' v.ownBlock → K (a.put o.dst v') w') :
    if Region.wanted o (yielded ops a.tmps) = true then Oper.wp Tryz.prog o a w K Q else E := by
  rw [if_pos hw]
  obtain ⟨i0, hi, hz0, hz1, hz2⟩ := info_parts infoCell
  rcases hu with ⟨ad, c, rfl, hac, _, rfl⟩ | ⟨b, o1, c, rfl, hlc, hcm, hbb, hcs⟩
  · cases ad with
    | none =>
      obtain rfl := hac rfl
      have hrun := run_append_owned_none (P := Tryz.prog) (w := w) base 43 o.type 66 i0 3 Tryz.underlying43 hi v _ _ hown
      have hk := h v w (by simpa using hown) (grownBy_refl _ _)
      unfold Oper.wp
      simp [execOp, ho, resolve, invoke, builtin, hs, hx, hrun, Result.andThen]
      exact hk
    | some ad =>
      refine wp_append_own w s x 43 ho base 66 i0 _ 3 32 Tryz.underlying43 hi hz0 hz1 hz2 rfl (by decide) v _ _ hs hown ad 0 c [] hx rfl (by simp) (by simp) (by unfold maxLen; omega) (by omega) hbase (fun v' w' h1 h2 _ => h v' w' ?_ h2)
      simpa using h1
  · refine wp_append_own w s x 43 ho base 66 i0 _ 3 32 Tryz.underlying43 hi hz0 hz1 hz2 rfl (by decide) v _ _ hs hown ⟨b, o1, none⟩ m.length c (cellsR m) hx (cellsR_length m) hcs.addF (cellsR_one m) (by unfold maxLen; omega) (by omega) hbase (fun v' w' h1 h2 _ => h v' w' (own_app h1 rfl rfl) h2)
theorem step_append_row {ops : Array Oper} {o : Oper} {a : Act} {K : Act → World → Prop} {Q : Exit → Act → World → Prop} {E : Prop} {w : World} (hgd : o.guard = none) (s x : Operand)
    (ho : o.op = .call { callee := .builtin .append, args := #[s, x], argTypes := #[43, 43] })
    (base : Nat) (v : Value) (l : Row) (hs : a.eval s = v) (hown : w.ownsRow base 66 3 v l.length (cellsR l)) (u : Value) (m : Row) (hx : a.eval x = u) (hu : RowAt w u m)
    (hb : l.length + m.length ≤ 1000000) (hbase : base ≤ w.heap.size)
    (h : ∀ v' w', w'.ownsRow base 66 3 v' (l ++ m).length (cellsR (l ++ m)) → w.grownBy w' v.ownBlock → K (a.put o.dst v') w') :
    if Region.wanted o (yielded ops a.tmps) = true then Oper.wp Tryz.prog o a w K Q else E :=
  step_append_rowG (by simp [Region.wanted, hgd]) s x ho base v l hs hown u m hx hu hb hbase h
/-- The same, behind a guard that holds. -/
theorem wpList_append_rowG {ops : Array Oper} {rest : List Oper} {o : Oper} {a : Act} {Q : Exit → Act → World → Prop} {w : World} (hw : Region.wanted o (yielded ops a.tmps) = true) (s x : Operand)
    (ho : o.op = .call { callee := .builtin .append, args := #[s, x], argTypes := #[43, 43] })
    (base : Nat) (v : Value) (l : Row) (hs : a.eval s = v) (hown : w.ownsRow base 66 3 v l.length (cellsR l)) (u : Value) (m : Row) (hx : a.eval x = u) (hu : RowAt w u m)
    (hb : l.length + m.length ≤ 1000000) (hbase : base ≤ w.heap.size)
    (h : ∀ v' w', w'.ownsRow base 66 3 v' (l ++ m).length (cellsR (l ++ m)) → w.grownBy w' v.ownBlock → wpList Tryz.prog ops Q rest (a.put o.dst v') w') : wpList Tryz.prog ops Q (o :: rest) a w :=
  wpList_step fun _ hK => step_append_rowG hw s x ho base v l hs hown u m hx hu hb hbase fun v' w' h1 h2 => hK _ _ (h v' w' h1 h2)

end Go.Proofs.YtafincmcmgedbaaGreatDoor

namespace Go.Proofs.YtafincmcmgedbaaGreatDoor
open Go.RowKit Go.Lib

/-- The line lies in block b. -/
structure BoxAt (w : World) (b : Nat) (q : Int) (sl : Value) (k : Int) (sc : Value) : Prop where
  lt : b < w.heap.size
  c0 : w.cell? ⟨b, 0, none⟩ = some (.int .i64 q)
  c1 : w.cell? ⟨b, 1, none⟩ = some sl
  c2 : w.cell? ⟨b, 2, none⟩ = some (.int .i64 k)
  c3 : w.cell? ⟨b, 3, none⟩ = some sc
  f0 : w.frozen? ⟨b, 0, none⟩ = false
  f1 : w.frozen? ⟨b, 1, none⟩ = false
  f2 : w.frozen? ⟨b, 2, none⟩ = false
  f3 : w.frozen? ⟨b, 3, none⟩ = false
theorem BoxAt.below {w w' : World} {b : Nat} {q k : Int} {sl sc : Value} (h : BoxAt w b q sl k sc) (hb : Below w.heap.size w w') : BoxAt w' b q sl k sc :=
  ⟨Nat.lt_of_lt_of_le h.lt hb.size, (hb.cell (p := ⟨b, 0, none⟩) h.lt).trans h.c0, (hb.cell (p := ⟨b, 1, none⟩) h.lt).trans h.c1, (hb.cell (p := ⟨b, 2, none⟩) h.lt).trans h.c2, (hb.cell (p := ⟨b, 3, none⟩) h.lt).trans h.c3,
    (hb.frozen (p := ⟨b, 0, none⟩) h.lt).trans h.f0, (hb.frozen (p := ⟨b, 1, none⟩) h.lt).trans h.f1, (hb.frozen (p := ⟨b, 2, none⟩) h.lt).trans h.f2, (hb.frozen (p := ⟨b, 3, none⟩) h.lt).trans h.f3⟩
theorem box_new (w : World) (q k : Int) (sl sc : Value) : BoxAt (w.alloc (.cells #[.int .i64 q, sl, .int .i64 k, sc] 46)) w.heap.size q sl k sc := by
  constructor <;> simp [go_sem]
theorem box_two (w : World) (q k q' k' : Int) (sl sc sl' sc' : Value) :
    Below w.heap.size w ((w.alloc (.cells #[.int .i64 q, sl, .int .i64 k, sc] 46)).alloc (.cells #[.int .i64 q', sl', .int .i64 k', sc'] 46)) ∧
    BoxAt ((w.alloc (.cells #[.int .i64 q, sl, .int .i64 k, sc] 46)).alloc (.cells #[.int .i64 q', sl', .int .i64 k', sc'] 46)) w.heap.size q sl k sc ∧
    BoxAt ((w.alloc (.cells #[.int .i64 q, sl, .int .i64 k, sc] 46)).alloc (.cells #[.int .i64 q', sl', .int .i64 k', sc'] 46)) (w.heap.size + 1) q' sl' k' sc' := by
  refine ⟨((Below.refl _ w).alloc (Nat.le_refl _) _).alloc (by simp) _, (box_new w q k sl sc).below ((Below.refl _ _).alloc (Nat.le_refl _) _), ?_⟩
  have h := box_new (w.alloc (.cells #[.int .i64 q, sl, .int .i64 k, sc] 46)) q' k' sl' sc'
  rw [show (w.alloc (.cells #[.int .i64 q, sl, .int .i64 k, sc] 46)).heap.size = w.heap.size + 1 by simp] at h
  exact h

/-- A line whose rows are its own, from block B on. -/
def OwnLn (B : Nat) (w : World) (sl sc : Value) (ls : IRow) (cs : Row) : Prop := w.ownsRow B 3 1 sl ls.length (cellsZ ls) ∧ w.ownsRow B 66 3 sc cs.length (cellsR cs)
theorem OwnLn.below {w w' : World} {B : Nat} {sl sc : Value} {ls : IRow} {cs : Row} (h : OwnLn B w sl sc ls cs) (hb : Below w.heap.size w w') : OwnLn B w' sl sc ls cs := ⟨ownsRow_below h.1 hb, ownsRow_below h.2 hb⟩
theorem OwnLn.mono {w : World} {B C : Nat} {sl sc : Value} {ls : IRow} {cs : Row} (h : OwnLn B w sl sc ls cs) (hC : C ≤ B) : OwnLn C w sl sc ls cs := ⟨h.1.mono hC, h.2.mono hC⟩
/-- A store into a block that is none of a row's. -/
theorem own_setCell {w : World} {B e size n : Nat} {v u : Value} {xs : List Value} {p : Addr} (h : w.ownsRow B e size v n xs) (hp : p.block < B) : (w.setCell p u).ownsRow B e size v n xs :=
  own_other h (fun k hk _ => Below.heap_setCell w p u k (by omega))
theorem own_set2 {w : World} {B e size n : Nat} {v u : Value} {xs : List Value} {p : Addr} (h : w.ownsRow B e size v n xs) (hp : v.ownBlock ≠ some p.block) : (w.setCell p u).ownsRow B e size v n xs := by
  refine ⟨h.1, ?_⟩
  rcases h.2 with h2 | ⟨g, cap, cur, hv, hg, hc, hrest⟩
  · exact .inl h2
  · subst hv
    refine .inr ⟨g, cap, cur, rfl, hg, (Below.heap_setCell w p u g (fun e => hp (by rw [e]; rfl))).trans hc, hrest⟩
/-- What Own does last: its two rows are laid into the line, the line into the answer. -/
theorem six_stores {w w2 : World} {B : Nat} {v1 v2 : Value} {ls : IRow} {cs : Row} (hb : Below w.heap.size w w2) (hB : w.heap.size + 1 < B) (h1 : w2.ownsRow B 3 1 v1 ls.length (cellsZ ls)) (h2 : w2.ownsRow B 66 3 v2 cs.length (cellsR cs)) (u1 u2 u3 u4 u5 u6 : Value) :
    OwnLn w.heap.size ((((((w2.setCell ⟨w.heap.size, 1, none⟩ u1).setCell ⟨w.heap.size, 3, none⟩ u2).setCell ⟨w.heap.size + 1, 0, none⟩ u3).setCell ⟨w.heap.size + 1, 1, none⟩ u4).setCell ⟨w.heap.size + 1, 2, none⟩ u5).setCell ⟨w.heap.size + 1, 3, none⟩ u6) v1 v2 ls cs ∧
    Below w.heap.size w ((((((w2.setCell ⟨w.heap.size, 1, none⟩ u1).setCell ⟨w.heap.size, 3, none⟩ u2).setCell ⟨w.heap.size + 1, 0, none⟩ u3).setCell ⟨w.heap.size + 1, 1, none⟩ u4).setCell ⟨w.heap.size + 1, 2, none⟩ u5).setCell ⟨w.heap.size + 1, 3, none⟩ u6) := by
  have hB0 : w.heap.size < B := by omega
  have e0 : w.heap.size ≤ w.heap.size := Nat.le_refl _
  have e1 : w.heap.size ≤ w.heap.size + 1 := Nat.le_succ _
  refine ⟨⟨World.ownsRow.mono (own_setCell (own_setCell (own_setCell (own_setCell (own_setCell (own_setCell h1 hB0) hB0) hB) hB) hB) hB) (Nat.le_of_lt hB0), World.ownsRow.mono (own_setCell (own_setCell (own_setCell (own_setCell (own_setCell (own_setCell h2 hB0) hB0) hB) hB) hB) hB) (Nat.le_of_lt hB0)⟩, ?_⟩
  exact (((((hb.setCell (p := ⟨w.heap.size, 1, none⟩) e0 _).setCell (p := ⟨w.heap.size, 3, none⟩) e0 _).setCell (p := ⟨w.heap.size + 1, 0, none⟩) e1 _).setCell (p := ⟨w.heap.size + 1, 1, none⟩) e1 _).setCell (p := ⟨w.heap.size + 1, 2, none⟩) e1 _).setCell (p := ⟨w.heap.size + 1, 3, none⟩) e1 _

end Go.Proofs.YtafincmcmgedbaaGreatDoor

namespace Go.Proofs.YtafincmcmgedbaaGreatDoor
open Go.RowKit Go.Lib

def lnV (q : Int) (sl : Value) (k : Int) (sc : Value) : Value := .agg #[.int .i64 q, sl, .int .i64 k, sc]
/-- The two slices read as the line's rows. -/
structure LnAt (w : World) (sl sc : Value) (ls : IRow) (cs : Row) : Prop where
  z : IntsAt w sl ls
  r : RowAt w sc cs
theorem LnAt.below {w w' : World} {sl sc : Value} {ls : IRow} {cs : Row} (h : LnAt w sl sc ls cs) (hb : Below w.heap.size w w') : LnAt w' sl sc ls cs := ⟨h.z.below hb, h.r.below hb⟩
theorem lnAt_of_own {w : World} {B : Nat} {sl sc : Value} {ls : IRow} {cs : Row} (h : OwnLn B w sl sc ls cs) : LnAt w sl sc ls cs := ⟨intsAt_of_own h.1, rowAt_of_own h.2⟩

structure MineZ (B C : Nat) (w : World) (v : Value) (ls : IRow) : Prop where
  here : IntsAt w v ls
  mine : 0 < ls.length → ∀ g o n c, v = .slice (some ⟨g, o, none⟩) n c → B ≤ g ∧ g < C ∧ ∀ j, j < ls.length → w.frozen? ⟨g, o + j, none⟩ = false
structure MineR (B C : Nat) (w : World) (v : Value) (cs : Row) : Prop where
  here : RowAt w v cs
  mine : 0 < cs.length → ∀ g o n c, v = .slice (some ⟨g, o, none⟩) n c → B ≤ g ∧ g < C ∧ ∀ j, j < cs.length → w.frozen? ⟨g, o + j * 3 + 1, none⟩ = false
/-- A line whose rows may be written over, and lie in two blocks. -/
structure MineLn (B C : Nat) (w : World) (sl sc : Value) (ls : IRow) (cs : Row) : Prop where
  z : MineZ B C w sl ls
  r : MineR B C w sc cs
  ap : 0 < ls.length → 0 < cs.length → ∀ g o n c g' o' n' c', sl = .slice (some ⟨g, o, none⟩) n c → sc = .slice (some ⟨g', o', none⟩) n' c' → g ≠ g'
theorem MineLn.at {B C : Nat} {w : World} {sl sc : Value} {ls : IRow} {cs : Row} (h : MineLn B C w sl sc ls cs) : LnAt w sl sc ls cs := ⟨h.z.here, h.r.here⟩

/-- The blocks of [B, C) are as they were. -/
def Kept (B C : Nat) (w w' : World) : Prop := w.heap.size ≤ w'.heap.size ∧ ∀ k, B ≤ k → k < C → k < w.heap.size → w'.heap[k]? = w.heap[k]?
theorem Kept.cell {B C : Nat} {w w' : World} (h : Kept B C w w') {p : Addr} (h1 : B ≤ p.block) (h2 : p.block < C) (h3 : p.block < w.heap.size) : w'.cell? p = w.cell? p := World.cell?_of_block (w := w) (h.2 p.block h1 h2 h3)
theorem Kept.frozen {B C : Nat} {w w' : World} (h : Kept B C w w') {p : Addr} (h1 : B ≤ p.block) (h2 : p.block < C) (h3 : p.block < w.heap.size) : w'.frozen? p = w.frozen? p := World.frozen?_of_block (w := w) (h.2 p.block h1 h2 h3)
theorem kept_of_below {B C : Nat} {w w' : World} (h : Below w.heap.size w w') : Kept B C w w' := ⟨h.size, fun k _ _ hk => h.block k hk⟩
theorem kept_set {B C : Nat} (w : World) (p : Addr) (u : Value) (h : p.block < B ∨ C ≤ p.block) : Kept B C w (w.setCell p u) :=
  ⟨by simp [World.setCell], fun k h1 h2 _ => Below.heap_setCell w p u k (by omega)⟩
theorem MineZ.kept {B C : Nat} {w w' : World} {v : Value} {ls : IRow} (h : MineZ B C w v ls) (hk : Kept B C w w') : MineZ B C w' v ls := by
  refine ⟨?_, fun hl g o n c e => ?_⟩
  · rcases h.here with h1 | ⟨b, o, c, h1, h2, h3, h4, h5⟩
    · exact .inl h1
    · refine .inr ⟨b, o, c, h1, h2, h3, Nat.lt_of_lt_of_le h4 hk.1, fun j hj => ?_⟩
      obtain ⟨m1, m2, _⟩ := h.mine (by omega) b o ls.length c h1
      exact (hk.cell (p := ⟨b, o + j, none⟩) m1 m2 h4).trans (h5 j hj)
  · obtain ⟨m1, m2, m3⟩ := h.mine hl g o n c e
    refine ⟨m1, m2, fun j hj => ?_⟩
    obtain ⟨b', o', c', h1, _, _, h4, _⟩ := h.here.lies hl
    rw [h1] at e
    simp only [Value.slice.injEq, Option.some.injEq, Addr.mk.injEq, and_true] at e
    obtain ⟨⟨rfl, rfl⟩, _⟩ := e
    exact (hk.frozen (p := ⟨_, _, none⟩) m1 m2 h4).trans (m3 j hj)
theorem MineR.kept {B C : Nat} {w w' : World} {v : Value} {cs : Row} (h : MineR B C w v cs) (hk : Kept B C w w') : MineR B C w' v cs := by
  refine ⟨?_, fun hl g o n c e => ?_⟩
  · rcases h.here with h1 | ⟨b, o, c, h1, h2, h3, h4, h5⟩
    · exact .inl h1
    · refine .inr ⟨b, o, c, h1, h2, h3, Nat.lt_of_lt_of_le h4 hk.1, fun j hj => ?_⟩
      obtain ⟨m1, m2, _⟩ := h.mine (by omega) b o cs.length c h1
      obtain ⟨x1, x2, x3⟩ := h5 j hj
      exact ⟨(hk.cell (p := ⟨b, _, none⟩) m1 m2 h4).trans x1, (hk.cell (p := ⟨b, _, none⟩) m1 m2 h4).trans x2, (hk.cell (p := ⟨b, _, none⟩) m1 m2 h4).trans x3⟩
  · obtain ⟨m1, m2, m3⟩ := h.mine hl g o n c e
    refine ⟨m1, m2, fun j hj => ?_⟩
    obtain ⟨b', o', c', h1, _, _, h4, _⟩ := h.here.lies hl
    rw [h1] at e
    simp only [Value.slice.injEq, Option.some.injEq, Addr.mk.injEq, and_true] at e
    obtain ⟨⟨rfl, rfl⟩, _⟩ := e
    exact (hk.frozen (p := ⟨_, _, none⟩) m1 m2 h4).trans (m3 j hj)
theorem MineZ.mono {B C B' C' : Nat} {w : World} {v : Value} {ls : IRow} (h : MineZ B C w v ls) (hB : B' ≤ B) (hC : C ≤ C') : MineZ B' C' w v ls :=
  ⟨h.here, fun hl g o n c e => ⟨Nat.le_trans hB (h.mine hl g o n c e).1, Nat.lt_of_lt_of_le (h.mine hl g o n c e).2.1 hC, (h.mine hl g o n c e).2.2⟩⟩
theorem MineR.mono {B C B' C' : Nat} {w : World} {v : Value} {cs : Row} (h : MineR B C w v cs) (hB : B' ≤ B) (hC : C ≤ C') : MineR B' C' w v cs :=
  ⟨h.here, fun hl g o n c e => ⟨Nat.le_trans hB (h.mine hl g o n c e).1, Nat.lt_of_lt_of_le (h.mine hl g o n c e).2.1 hC, (h.mine hl g o n c e).2.2⟩⟩
theorem MineLn.mono {B C B' C' : Nat} {w : World} {sl sc : Value} {ls : IRow} {cs : Row} (h : MineLn B C w sl sc ls cs) (hB : B' ≤ B) (hC : C ≤ C') : MineLn B' C' w sl sc ls cs := ⟨h.z.mono hB hC, h.r.mono hB hC, h.ap⟩
theorem MineLn.kept {B C : Nat} {w w' : World} {sl sc : Value} {ls : IRow} {cs : Row} (h : MineLn B C w sl sc ls cs) (hk : Kept B C w w') : MineLn B C w' sl sc ls cs := ⟨h.z.kept hk, h.r.kept hk, h.ap⟩
theorem MineLn.below {B C : Nat} {w w' : World} {sl sc : Value} {ls : IRow} {cs : Row} (h : MineLn B C w sl sc ls cs) (hb : Below w.heap.size w w') : MineLn B C w' sl sc ls cs := h.kept (kept_of_below hb)

theorem frozen_cells {w : World} {g : Nat} {cur : Array Value} {t : TypeId} (h : w.heap[g]? = some (.cells cur t (0, 0))) (j : Nat) : w.frozen? ⟨g, j, none⟩ = false := by
  simp [World.frozen?, h]
theorem mineZ_of_own {B : Nat} {w : World} {v : Value} {ls : IRow} (h : w.ownsRow B 3 1 v ls.length (cellsZ ls)) : MineZ B w.heap.size w v ls := by
  refine ⟨intsAt_of_own h, fun hl g o n c e => ?_⟩
  rcases h.2 with ⟨_, h0⟩ | ⟨g', cap, cur, rfl, hB, hg, _⟩
  · omega
  · simp only [Value.slice.injEq, Option.some.injEq, Addr.mk.injEq, and_true] at e
    obtain ⟨⟨rfl, rfl⟩, _⟩ := e
    exact ⟨hB, (Array.getElem?_eq_some_iff.1 hg).1, fun j _ => frozen_cells hg _⟩
theorem mineR_of_own {B : Nat} {w : World} {v : Value} {cs : Row} (h : w.ownsRow B 66 3 v cs.length (cellsR cs)) : MineR B w.heap.size w v cs := by
  refine ⟨rowAt_of_own h, fun hl g o n c e => ?_⟩
  rcases h.2 with ⟨_, h0⟩ | ⟨g', cap, cur, rfl, hB, hg, _⟩
  · omega
  · simp only [Value.slice.injEq, Option.some.injEq, Addr.mk.injEq, and_true] at e
    obtain ⟨⟨rfl, rfl⟩, _⟩ := e
    exact ⟨hB, (Array.getElem?_eq_some_iff.1 hg).1, fun j _ => frozen_cells hg _⟩
theorem mine_of_own {B : Nat} {w : World} {sl sc : Value} {ls : IRow} {cs : Row} (h : OwnLn B w sl sc ls cs) : MineLn B w.heap.size w sl sc ls cs := by
  refine ⟨mineZ_of_own h.1, mineR_of_own h.2, fun h1 h2 g o n c g' o' n' c' e e' hgg => ?_⟩
  rcases h.1.2 with ⟨_, h0⟩ | ⟨g1, cap1, cur1, e1, _, hg1, _⟩
  · omega
  · rcases h.2.2 with ⟨_, h0⟩ | ⟨g2, cap2, cur2, e2, _, hg2, _⟩
    · omega
    · rw [e1] at e
      rw [e2] at e'
      simp only [Value.slice.injEq, Option.some.injEq, Addr.mk.injEq, and_true] at e e'
      obtain ⟨⟨rfl, _⟩, _⟩ := e
      obtain ⟨⟨rfl, _⟩, _⟩ := e'
      rw [hgg] at hg1
      rw [hg1] at hg2
      have := (Obj.cells.inj (Option.some.inj hg2)).2.1
      exact absurd this (by decide)

/-- Nothing has turned but the blocks of [B, C). -/
structure Twixt (B C : Nat) (w w' : World) : Prop where
  os : w'.os = w.os
  tape : w'.tape = w.tape
  output : w'.output = w.output
  size : w.heap.size ≤ w'.heap.size
  block : ∀ k, k < w.heap.size → (k < B ∨ C ≤ k) → w'.heap[k]? = w.heap[k]?
theorem Twixt.of_below {B C : Nat} {w w' : World} (h : Below w.heap.size w w') : Twixt B C w w' := ⟨h.os, h.tape, h.output, h.size, fun k hk _ => h.block k hk⟩
theorem Twixt.trans {B C : Nat} {a b c : World} (h : Twixt B C a b) (k : Twixt B C b c) : Twixt B C a c :=
  ⟨k.os.trans h.os, k.tape.trans h.tape, k.output.trans h.output, Nat.le_trans h.size k.size, fun i hi ho => (k.block i (Nat.lt_of_lt_of_le hi h.size) ho).trans (h.block i hi ho)⟩
theorem Twixt.set {B C : Nat} {a w : World} (h : Twixt B C a w) {p : Addr} (h1 : B ≤ p.block) (h2 : p.block < C) (u : Value) : Twixt B C a (w.setCell p u) :=
  h.trans ⟨rfl, rfl, rfl, by simp [World.setCell], fun k _ ho => Below.heap_setCell w p u k (by omega)⟩
theorem Twixt.below {B C : Nat} {w w' : World} (h : Twixt B C w w') (hB : B ≤ w.heap.size) : Below B w w' := ⟨h.os, h.tape, h.output, h.size, fun k hk => h.block k (by omega) (.inl hk)⟩
theorem Twixt.kept {B C D : Nat} {w w' : World} (h : Twixt B C w w') (A : Nat) (hA : C ≤ A) : Kept A D w w' := ⟨h.size, fun k h1 _ h3 => h.block k h3 (.inr (by omega))⟩
theorem Twixt.mono {B C B' C' : Nat} {w w' : World} (h : Twixt B C w w') (hB : B' ≤ B) (hC : C ≤ C') : Twixt B' C' w w' := ⟨h.os, h.tape, h.output, h.size, fun k hk ho => h.block k hk (by omega)⟩

theorem BoxAt.far {w : World} {b g j : Nat} {q k : Int} {sl sc : Value} (h : BoxAt w b q sl k sc) (hg : g ≠ b) (u : Value) : BoxAt (w.setCell ⟨g, j, none⟩ u) b q sl k sc := by
  have hk : (w.setCell ⟨g, j, none⟩ u).heap[b]? = w.heap[b]? := Below.heap_setCell w _ _ _ (fun e => hg e.symm)
  obtain ⟨lt, c0, c1, c2, c3, f0, f1, f2, f3⟩ := h
  exact ⟨by simpa [World.setCell] using lt, (World.cell?_of_block (w := w) (a := ⟨b, 0, none⟩) hk).trans c0, (World.cell?_of_block (w := w) (a := ⟨b, 1, none⟩) hk).trans c1, (World.cell?_of_block (w := w) (a := ⟨b, 2, none⟩) hk).trans c2, (World.cell?_of_block (w := w) (a := ⟨b, 3, none⟩) hk).trans c3,
    (World.frozen?_of_block (w := w) (a := ⟨b, 0, none⟩) hk).trans f0, (World.frozen?_of_block (w := w) (a := ⟨b, 1, none⟩) hk).trans f1, (World.frozen?_of_block (w := w) (a := ⟨b, 2, none⟩) hk).trans f2, (World.frozen?_of_block (w := w) (a := ⟨b, 3, none⟩) hk).trans f3⟩

/-! ### a line is stored into a block -/
abbrev put4 (w : World) (r : Nat) (q : Int) (sl : Value) (k : Int) (sc : Value) : World := (((w.setCell ⟨r, 0, none⟩ (.int .i64 q)).setCell ⟨r, 1, none⟩ sl).setCell ⟨r, 2, none⟩ (.int .i64 k)).setCell ⟨r, 3, none⟩ sc
theorem put4_block (w : World) (r : Nat) (q k : Int) (sl sc : Value) (b : Nat) (h : b ≠ r) : (put4 w r q sl k sc).heap[b]? = w.heap[b]? :=
  (Below.heap_setCell _ ⟨r, 3, none⟩ _ b h).trans ((Below.heap_setCell _ ⟨r, 2, none⟩ _ b h).trans ((Below.heap_setCell _ ⟨r, 1, none⟩ _ b h).trans (Below.heap_setCell _ ⟨r, 0, none⟩ _ b h)))
theorem put4_size (w : World) (r : Nat) (q k : Int) (sl sc : Value) : (put4 w r q sl k sc).heap.size = w.heap.size := by simp [World.setCell]
theorem put4_kept {B C : Nat} {w : World} {r : Nat} {q k : Int} {sl sc : Value} (h : r < B ∨ C ≤ r) : Kept B C w (put4 w r q sl k sc) :=
  ⟨Nat.le_of_eq (put4_size _ _ _ _ _ _).symm, fun b h1 h2 _ => put4_block _ _ _ _ _ _ b (by omega)⟩
theorem put4_below {B : Nat} {w w1 : World} {r : Nat} {q k : Int} {sl sc : Value} (h : Below B w w1) (hr : B ≤ r) : Below B w (put4 w1 r q sl k sc) :=
  (((h.setCell (p := ⟨r, 0, none⟩) hr _).setCell (p := ⟨r, 1, none⟩) hr _).setCell (p := ⟨r, 2, none⟩) hr _).setCell (p := ⟨r, 3, none⟩) hr _
theorem put4_own {D : Nat} {w : World} {r : Nat} {q k : Int} {sl sc sl' sc' : Value} {ls : IRow} {cs : Row} (h : OwnLn D w sl' sc' ls cs) (hr : r < D) : OwnLn D (put4 w r q sl k sc) sl' sc' ls cs :=
  ⟨own_setCell (own_setCell (own_setCell (own_setCell h.1 hr) hr) hr) hr, own_setCell (own_setCell (own_setCell (own_setCell h.2 hr) hr) hr) hr⟩
theorem put4_box {w : World} {r : Nat} {q k q' k' : Int} {sl sc sl' sc' : Value} (h : BoxAt w r q' sl' k' sc') : BoxAt (put4 w r q sl k sc) r q sl k sc := by
  obtain ⟨lt, c0, c1, c2, c3, f0, f1, f2, f3⟩ := h
  refine ⟨by simpa [World.setCell] using lt, ?_, ?_, ?_, ?_, ?_, ?_, ?_, ?_⟩ <;> simp [go_sem, *]
theorem put4_far {w : World} {b r : Nat} {q k q' k' : Int} {sl sc sl' sc' : Value} (h : BoxAt w b q' sl' k' sc') (hb : b ≠ r) : BoxAt (put4 w r q sl k sc) b q' sl' k' sc' :=
  (((h.far hb.symm _).far hb.symm _).far hb.symm _).far hb.symm _
theorem LnAt.kept {w w' : World} {sl sc : Value} {ls : IRow} {cs : Row} (h : LnAt w sl sc ls cs) (hs : w.heap.size ≤ w'.heap.size) (hk : ∀ g o n c, (sl = .slice (some ⟨g, o, none⟩) n c ∧ 0 < ls.length) ∨ (sc = .slice (some ⟨g, o, none⟩) n c ∧ 0 < cs.length) → w'.heap[g]? = w.heap[g]?) : LnAt w' sl sc ls cs := by
  refine ⟨?_, ?_⟩
  · rcases h.z with h1 | ⟨b, o, c, h1, h2, h3, h4, h5⟩
    · exact .inl h1
    · refine .inr ⟨b, o, c, h1, h2, h3, Nat.lt_of_lt_of_le h4 hs, fun j hj => ?_⟩
      exact (World.cell?_of_block (w := w) (a := ⟨b, _, none⟩) (hk _ _ _ _ (.inl ⟨h1, by omega⟩))).trans (h5 j hj)
  · rcases h.r with h1 | ⟨b, o, c, h1, h2, h3, h4, h5⟩
    · exact .inl h1
    · refine .inr ⟨b, o, c, h1, h2, h3, Nat.lt_of_lt_of_le h4 hs, fun j hj => ?_⟩
      have e := hk _ _ _ _ (.inr ⟨h1, by omega⟩)
      obtain ⟨x1, x2, x3⟩ := h5 j hj
      exact ⟨(World.cell?_of_block (w := w) (a := ⟨b, _, none⟩) e).trans x1, (World.cell?_of_block (w := w) (a := ⟨b, _, none⟩) e).trans x2, (World.cell?_of_block (w := w) (a := ⟨b, _, none⟩) e).trans x3⟩

end Go.Proofs.YtafincmcmgedbaaGreatDoor

namespace Go.Proofs.YtafincmcmgedbaaGreatDoor
open Go.RowKit Go.Lib

/-- A line, with where its rows lie. -/
structure Lw where
  za : Option Addr
  zc : Nat
  ra : Option Addr
  rc : Nat
  ln : Ln
instance : Inhabited Lw := ⟨⟨none, 0, none, 0, ln0⟩⟩
def Lw.sl (x : Lw) : Value := .slice x.za x.ln.ls.length x.zc
def Lw.sc (x : Lw) : Value := .slice x.ra x.ln.cs.length x.rc
def encL (x : Lw) : List Value := [.int .i64 x.ln.q, x.sl, .int .i64 x.ln.k, x.sc]
def aggL (x : Lw) : Value := .agg #[.int .i64 x.ln.q, x.sl, .int .i64 x.ln.k, x.sc]
def cellsD (l : List Lw) : List Value := l.flatMap encL
abbrev Doc : Type := List Ln
def pl (l : List Lw) : Doc := l.map (·.ln)
theorem pl_length (l : List Lw) : (pl l).length = l.length := by unfold pl; rw [List.length_map]
theorem pl_at (l : List Lw) (j : Nat) (h : j < l.length) : (pl l)[j]? = some (l[j]!).ln := by
  unfold pl; rw [List.getElem?_map, List.getElem!_eq_getElem?_getD, List.getElem?_eq_getElem h]; rfl
theorem pl_append (l m : List Lw) : pl (l ++ m) = pl l ++ pl m := by unfold pl; rw [List.map_append]
theorem pl_take (l : List Lw) (k : Nat) : pl (l.take k) = (pl l).take k := by unfold pl; rw [List.map_take]
theorem pl_drop (l : List Lw) (k : Nat) : pl (l.drop k) = (pl l).drop k := by unfold pl; rw [List.map_drop]

theorem infoLine : (Tryz.prog.info? 46).map (fun i => (i.zero, i.size, i.bytes)) = some (some (.agg #[.int .i64 0, .slice none 0 0, .int .i64 0, .slice none 0 0]), 4, 64) := by kernel_rfl

theorem cellsD_length : ∀ l : List Lw, (cellsD l).length = l.length * 4
  | [] => rfl
  | a :: l => by
    have := cellsD_length l
    show (encL a ++ cellsD l).length = _
    rw [List.length_append, this]
    simp [encL]; omega
theorem cellsD_append (l m : List Lw) : cellsD (l ++ m) = cellsD l ++ cellsD m := by unfold cellsD; rw [List.flatMap_append]
theorem cellsD_at : ∀ (l : List Lw) (j : Nat), j < l.length → (cellsD l)[j * 4]? = some (.int .i64 (l[j]!).ln.q) ∧ (cellsD l)[j * 4 + 1]? = some (l[j]!).sl ∧ (cellsD l)[j * 4 + 2]? = some (.int .i64 (l[j]!).ln.k) ∧ (cellsD l)[j * 4 + 3]? = some (l[j]!).sc
  | [], j, h => by simp at h
  | a :: l, 0, _ => ⟨rfl, rfl, rfl, rfl⟩
  | a :: l, j + 1, h => by
    have ih := cellsD_at l j (by simpa using h)
    have e : cellsD (a :: l) = .int .i64 a.ln.q :: a.sl :: .int .i64 a.ln.k :: a.sc :: cellsD l := rfl
    have e1 : (j + 1) * 4 = j * 4 + 1 + 1 + 1 + 1 := by omega
    rw [e, e1]
    simpa using ih
theorem cellsD_one (l : List Lw) : ∀ u ∈ cellsD l, u.oneCell' = true := by
  intro u hu
  unfold cellsD at hu
  rw [List.mem_flatMap] at hu
  obtain ⟨a, _, ha⟩ := hu
  simp only [encL, List.mem_cons, List.not_mem_nil, or_false] at ha
  rcases ha with rfl | rfl | rfl | rfl <;> rfl

/-- The lines lie in block b, from place o on. -/
def LinesIn (w : World) (b o : Nat) (l : List Lw) : Prop := ∀ j, j < l.length → w.cell? ⟨b, o + j * 4, none⟩ = some (.int .i64 (l[j]!).ln.q) ∧ w.cell? ⟨b, o + j * 4 + 1, none⟩ = some (l[j]!).sl ∧ w.cell? ⟨b, o + j * 4 + 2, none⟩ = some (.int .i64 (l[j]!).ln.k) ∧ w.cell? ⟨b, o + j * 4 + 3, none⟩ = some (l[j]!).sc
/-- The slice v reads as these lines. -/
def SliceAt (w : World) (v : Value) (l : List Lw) : Prop :=
  (∃ a c, v = .slice a 0 c ∧ (a = none → c = 0) ∧ c ≤ maxLen ∧ l = []) ∨ ∃ b o c, v = .slice (some ⟨b, o, none⟩) l.length c ∧ l.length ≤ c ∧ c ≤ maxLen ∧ b < w.heap.size ∧ LinesIn w b o l
def LwAt (w : World) (x : Lw) : Prop := LnAt w x.sl x.sc x.ln.ls x.ln.cs
/-- It reads as a document. -/
structure DocAt (w : World) (v : Value) (l : List Lw) : Prop where
  s : SliceAt w v l
  n : ∀ x ∈ l, LwAt w x

theorem LinesIn.below {w w' : World} {b o : Nat} {l : List Lw} (h : LinesIn w b o l) (hb : b < w.heap.size) (hw : Below w.heap.size w w') : LinesIn w' b o l := fun j hj =>
  ⟨(hw.cell (p := ⟨b, o + j * 4, none⟩) hb).trans (h j hj).1, (hw.cell (p := ⟨b, o + j * 4 + 1, none⟩) hb).trans (h j hj).2.1, (hw.cell (p := ⟨b, o + j * 4 + 2, none⟩) hb).trans (h j hj).2.2.1, (hw.cell (p := ⟨b, o + j * 4 + 3, none⟩) hb).trans (h j hj).2.2.2⟩
theorem SliceAt.below {w w' : World} {v : Value} {l : List Lw} (h : SliceAt w v l) (hw : Below w.heap.size w w') : SliceAt w' v l := by
  rcases h with h | ⟨b, o, c, h1, h2, h3, h4, h5⟩
  · exact .inl h
  · exact .inr ⟨b, o, c, h1, h2, h3, Nat.lt_of_lt_of_le h4 hw.size, h5.below h4 hw⟩
theorem LwAt.below {w w' : World} {x : Lw} (h : LwAt w x) (hw : Below w.heap.size w w') : LwAt w' x := LnAt.below h hw
theorem DocAt.below {w w' : World} {v : Value} {l : List Lw} (h : DocAt w v l) (hw : Below w.heap.size w w') : DocAt w' v l := ⟨h.s.below hw, fun x hx => (h.n x hx).below hw⟩
theorem LinesIn.flat {w : World} {b o : Nat} {l : List Lw} (h : LinesIn w b o l) : ∀ j u, (cellsD l)[j]? = some u → w.cell? ⟨b, o + j, none⟩ = some u := by
  intro j u hu
  have hj : j < l.length * 4 := by rw [← cellsD_length]; exact (List.getElem?_eq_some_iff.1 hu).1
  obtain ⟨h1, h2, h3, h4⟩ := cellsD_at l (j / 4) (by omega)
  obtain ⟨k1, k2, k3, k4⟩ := h (j / 4) (by omega)
  have hm : j % 4 = 0 ∨ j % 4 = 1 ∨ j % 4 = 2 ∨ j % 4 = 3 := by omega
  rcases hm with e | e | e | e
  · have e2 : j / 4 * 4 = j := by omega
    rw [e2] at h1 k1
    rw [k1, ← h1, hu]
  · have e2 : j / 4 * 4 + 1 = j := by omega
    have e3 : o + j / 4 * 4 + 1 = o + j := by omega
    rw [e2] at h2
    rw [e3] at k2
    rw [k2, ← h2, hu]
  · have e2 : j / 4 * 4 + 2 = j := by omega
    have e3 : o + j / 4 * 4 + 2 = o + j := by omega
    rw [e2] at h3
    rw [e3] at k3
    rw [k3, ← h3, hu]
  · have e2 : j / 4 * 4 + 3 = j := by omega
    have e3 : o + j / 4 * 4 + 3 = o + j := by omega
    rw [e2] at h4
    rw [e3] at k4
    rw [k4, ← h4, hu]
theorem LinesIn.of_flat {w : World} {b o : Nat} {l : List Lw} (h : ∀ j u, (cellsD l)[j]? = some u → w.cell? ⟨b, o + j, none⟩ = some u) : LinesIn w b o l := fun j hj =>
  ⟨h _ _ (cellsD_at l j hj).1, by have := h _ _ (cellsD_at l j hj).2.1; rwa [← Nat.add_assoc] at this, by have := h _ _ (cellsD_at l j hj).2.2.1; rwa [← Nat.add_assoc] at this, by have := h _ _ (cellsD_at l j hj).2.2.2; rwa [← Nat.add_assoc] at this⟩
theorem LinesIn.addF {w : World} {b o : Nat} {l : List Lw} (h : LinesIn w b o l) : ∀ j u, (cellsD l)[j]? = some u → w.cell? ((⟨b, o, none⟩ : Addr).add j) = some u := by
  intro j u hu
  rw [Addr.add_lit]
  exact h.flat j u hu
/-- A part of it. -/
theorem getD_part {α : Type} [Inhabited α] (l : List α) (f n j : Nat) (h : j < n) : ((l.drop f).take n)[j]! = l[f + j]! := by
  rw [List.getElem!_eq_getElem?_getD, List.getElem!_eq_getElem?_getD, List.getElem?_take_of_lt h, List.getElem?_drop]
theorem LinesIn.part {w : World} {b o : Nat} {l : List Lw} (h : LinesIn w b o l) (f n : Nat) (hn : f + n ≤ l.length) : LinesIn w b (o + f * 4) ((l.drop f).take n) := fun j hj => by
  have hl : ((l.drop f).take n).length = n := by simp; omega
  have e2 : o + f * 4 + j * 4 = o + (f + j) * 4 := by omega
  rw [getD_part l f n j (by omega), e2]
  exact h (f + j) (by omega)
theorem SliceAt.len {w : World} {v : Value} {l : List Lw} (h : SliceAt w v l) : ∃ a c, v = .slice a l.length c := by
  rcases h with ⟨a, c, rfl, _, _, rfl⟩ | ⟨b, o, c, rfl, _⟩
  · exact ⟨a, c, rfl⟩
  · exact ⟨_, c, rfl⟩
theorem SliceAt.cap {w : World} {v : Value} {l : List Lw} (h : SliceAt w v l) : ∃ a c, v = .slice a l.length c ∧ l.length ≤ c ∧ c ≤ maxLen := by
  rcases h with ⟨a, c, rfl, _, hc, rfl⟩ | ⟨b, o, c, rfl, h1, h2, _⟩
  · exact ⟨a, c, rfl, Nat.zero_le _, hc⟩
  · exact ⟨_, c, rfl, h1, h2⟩
theorem SliceAt.lies {w : World} {v : Value} {l : List Lw} (h : SliceAt w v l) (hl : 0 < l.length) : ∃ b o c, v = .slice (some ⟨b, o, none⟩) l.length c ∧ l.length ≤ c ∧ c ≤ maxLen ∧ b < w.heap.size ∧ LinesIn w b o l := by
  rcases h with ⟨a, c, rfl, _, _, rfl⟩ | h
  · simp at hl
  · exact h
/-- What is owned is read so. -/
theorem sliceAt_of_own {w : World} {B : Nat} {v : Value} {l : List Lw} (h : w.ownsRow B 46 4 v l.length (cellsD l)) : SliceAt w v l := by
  have h0 := h
  obtain ⟨_, ⟨rfl, hn⟩ | ⟨g, cap, cur, rfl, _, hg, hnc, hcm, _, _⟩⟩ := h
  · exact .inl ⟨none, 0, rfl, fun _ => rfl, by decide, List.eq_nil_of_length_eq_zero hn⟩
  · refine .inr ⟨g, 0, cap, rfl, hnc, hcm, (Array.getElem?_eq_some_iff.1 hg).1, LinesIn.of_flat (fun j u hu => ?_)⟩
    have := h0.cells rfl j u hu
    rwa [Addr.add_lit] at this

/-- A line whose rows may be written over, laid from block B on. -/
structure MineLw (B : Nat) (w : World) (x : Lw) : Prop where
  z : MineZ B w.heap.size w x.sl x.ln.ls
  r : MineR B w.heap.size w x.sc x.ln.cs
theorem MineLw.at {B : Nat} {w : World} {x : Lw} (h : MineLw B w x) : LwAt w x := ⟨h.z.here, h.r.here⟩
theorem MineLw.below {B : Nat} {w w' : World} {x : Lw} (h : MineLw B w x) (hb : Below w.heap.size w w') : MineLw B w' x :=
  ⟨(h.z.kept (kept_of_below hb)).mono (Nat.le_refl _) hb.size, (h.r.kept (kept_of_below hb)).mono (Nat.le_refl _) hb.size⟩
theorem MineLw.mono {B C : Nat} {w : World} {x : Lw} (h : MineLw B w x) (hC : C ≤ B) : MineLw C w x := ⟨h.z.mono hC (Nat.le_refl _), h.r.mono hC (Nat.le_refl _)⟩
/-- Its rows lie in other blocks. -/
def OffB (b : Nat) (x : Lw) : Prop := ∀ g o, (x.za = some ⟨g, o, none⟩ ∧ 0 < x.ln.ls.length) ∨ (x.ra = some ⟨g, o, none⟩ ∧ 0 < x.ln.cs.length) → g ≠ b
theorem offB_hi {b : Nat} {w : World} {x : Lw} (h : LwAt w x) (hb : w.heap.size ≤ b) : OffB b x := by
  rintro g o (⟨e, hl⟩ | ⟨e, hl⟩)
  · obtain ⟨g', o', c', e', _, _, h4, _⟩ := h.z.lies hl
    unfold Lw.sl at e'
    rw [e] at e'
    simp only [Value.slice.injEq, Option.some.injEq, Addr.mk.injEq, and_true] at e'
    omega
  · obtain ⟨g', o', c', e', _, _, h4, _⟩ := h.r.lies hl
    unfold Lw.sc at e'
    rw [e] at e'
    simp only [Value.slice.injEq, Option.some.injEq, Addr.mk.injEq, and_true] at e'
    omega
theorem offB_lo {B b : Nat} {w : World} {x : Lw} (h : MineLw B w x) (hb : b < B) : OffB b x := by
  rintro g o (⟨e, hl⟩ | ⟨e, hl⟩)
  · have := (h.z.mine hl g o _ _ (by unfold Lw.sl; rw [e])).1
    omega
  · have := (h.r.mine hl g o _ _ (by unfold Lw.sc; rw [e])).1
    omega
theorem MineZ.keptAt' {B C : Nat} {w w' : World} {v : Value} {ls : IRow} (h : MineZ B C w v ls) (hs : w.heap.size ≤ w'.heap.size) (hk : 0 < ls.length → ∀ g o n c, v = .slice (some ⟨g, o, none⟩) n c → w'.heap[g]? = w.heap[g]?) : MineZ B C w' v ls := by
  by_cases hl : 0 < ls.length
  · obtain ⟨b, o, c, h1, h2, h3, h4, h5⟩ := h.here.lies hl
    have e := hk hl b o _ c h1
    refine ⟨.inr ⟨b, o, c, h1, h2, h3, Nat.lt_of_lt_of_le h4 hs, fun j hj => ?_⟩, fun _ g' o' n' c' e' => ?_⟩
    · exact (World.cell?_of_block (w := w) (a := ⟨b, _, none⟩) e).trans (h5 j hj)
    · obtain ⟨m1, m2, m3⟩ := h.mine hl g' o' n' c' e'
      exact ⟨m1, m2, fun j hj => (World.frozen?_of_block (w := w) (a := ⟨g', _, none⟩) (hk hl _ _ _ _ e')).trans (m3 j hj)⟩
  · rcases h.here with h1 | ⟨b, o, c, h1, h2, h3, h4, h5⟩
    · exact ⟨.inl h1, fun h => absurd h hl⟩
    · exact ⟨.inr ⟨b, o, c, h1, h2, h3, Nat.lt_of_lt_of_le h4 hs, fun j hj => absurd hj (by omega)⟩, fun h => absurd h hl⟩
theorem MineR.keptAt' {B C : Nat} {w w' : World} {v : Value} {cs : Row} (h : MineR B C w v cs) (hs : w.heap.size ≤ w'.heap.size) (hk : 0 < cs.length → ∀ g o n c, v = .slice (some ⟨g, o, none⟩) n c → w'.heap[g]? = w.heap[g]?) : MineR B C w' v cs := by
  by_cases hl : 0 < cs.length
  · obtain ⟨b, o, c, h1, h2, h3, h4, h5⟩ := h.here.lies hl
    have e := hk hl b o _ c h1
    refine ⟨.inr ⟨b, o, c, h1, h2, h3, Nat.lt_of_lt_of_le h4 hs, fun j hj => ?_⟩, fun _ g' o' n' c' e' => ?_⟩
    · obtain ⟨x1, x2, x3⟩ := h5 j hj
      exact ⟨(World.cell?_of_block (w := w) (a := ⟨b, _, none⟩) e).trans x1, (World.cell?_of_block (w := w) (a := ⟨b, _, none⟩) e).trans x2, (World.cell?_of_block (w := w) (a := ⟨b, _, none⟩) e).trans x3⟩
    · obtain ⟨m1, m2, m3⟩ := h.mine hl g' o' n' c' e'
      exact ⟨m1, m2, fun j hj => (World.frozen?_of_block (w := w) (a := ⟨g', _, none⟩) (hk hl _ _ _ _ e')).trans (m3 j hj)⟩
  · rcases h.here with h1 | ⟨b, o, c, h1, h2, h3, h4, h5⟩
    · exact ⟨.inl h1, fun h => absurd h hl⟩
    · exact ⟨.inr ⟨b, o, c, h1, h2, h3, Nat.lt_of_lt_of_le h4 hs, fun j hj => absurd hj (by omega)⟩, fun h => absurd h hl⟩
/-- It stays where nothing but a block is turned that its rows do not lie in. -/
theorem MineLw.keptAt {B : Nat} {w w' : World} {x : Lw} (h : MineLw B w x) (hs : w.heap.size ≤ w'.heap.size) (hk : ∀ g o, (x.za = some ⟨g, o, none⟩ ∧ 0 < x.ln.ls.length) ∨ (x.ra = some ⟨g, o, none⟩ ∧ 0 < x.ln.cs.length) → w'.heap[g]? = w.heap[g]?) : MineLw B w' x :=
  ⟨(h.z.keptAt' hs (fun hl g o _ _ e => hk g o (.inl ⟨(Value.slice.inj e).1, hl⟩))).mono (Nat.le_refl _) hs, (h.r.keptAt' hs (fun hl g o _ _ e => hk g o (.inr ⟨(Value.slice.inj e).1, hl⟩))).mono (Nat.le_refl _) hs⟩
theorem MineLw.grown {B : Nat} {w w' : World} {x : Lw} {r : Option Nat} (h : MineLw B w x) (hg : w.grownBy w' r) (ho : ∀ g, r = some g → OffB g x) : MineLw B w' x := by
  refine h.keptAt hg.size (fun g o hgo => hg.block g ?_ (fun e => ho g e.symm g o hgo rfl))
  rcases hgo with ⟨e, hl⟩ | ⟨e, hl⟩
  · exact (h.z.mine hl g o _ _ (by unfold Lw.sl; rw [e])).2.1
  · exact (h.r.mine hl g o _ _ (by unfold Lw.sc; rw [e])).2.1
theorem MineLw.set {B : Nat} {w : World} {x : Lw} {p : Addr} (h : MineLw B w x) (ho : OffB p.block x) (u : Value) : MineLw B (w.setCell p u) x :=
  h.keptAt (by simp [World.setCell]) (fun g o hgo => Below.heap_setCell _ _ _ _ (ho g o hgo))
/-- The lines of one's own, laid from block B on; their rows lie in other blocks than they. -/
structure OwnD (B : Nat) (w : World) (v : Value) (l : List Lw) : Prop where
  own : w.ownsRow B 46 4 v l.length (cellsD l)
  n : ∀ x ∈ l, MineLw B w x
  ap : ∀ x ∈ l, ∀ g, v.ownBlock = some g → OffB g x
theorem OwnD.at {B : Nat} {w : World} {v : Value} {l : List Lw} (h : OwnD B w v l) : DocAt w v l := ⟨sliceAt_of_own h.own, fun x hx => (h.n x hx).at⟩
theorem OwnD.below {B : Nat} {w w' : World} {v : Value} {l : List Lw} (h : OwnD B w v l) (hb : Below w.heap.size w w') : OwnD B w' v l := ⟨ownsRow_below h.own hb, fun x hx => (h.n x hx).below hb, h.ap⟩
theorem OwnD.mono {B C : Nat} {w : World} {v : Value} {l : List Lw} (h : OwnD B w v l) (hC : C ≤ B) : OwnD C w v l := ⟨h.own.mono hC, fun x hx => (h.n x hx).mono hC, h.ap⟩
theorem ownD_nil (B : Nat) (w : World) : OwnD B w (.slice none 0 0) [] := ⟨World.ownsRow_nil _ _ _ _, fun x hx => (by cases hx), fun x hx => (by cases hx)⟩
/-- What a call answers that makes a document: these lines, of its own. -/
def DocPost (d : Doc) (w : World) (e : Ending) (w' : World) : Prop := ∃ v l, e = .returned v ∧ OwnD w.heap.size w' v l ∧ pl l = d ∧ Below w.heap.size w w'
/-- A line that was just made, as Lw. -/
theorem lw_of_own {B : Nat} {w : World} {q k : Int} {sl sc : Value} {ls : IRow} {cs : Row} (h : OwnLn B w sl sc ls cs) : ∃ x : Lw, x.sl = sl ∧ x.sc = sc ∧ x.ln = ⟨q, ls, k, cs⟩ ∧ MineLw B w x := by
  obtain ⟨a1, c1, rfl⟩ := own_len h.1
  obtain ⟨a2, c2, rfl⟩ := own_len h.2
  exact ⟨⟨a1, c1, a2, c2, ⟨q, ls, k, cs⟩⟩, rfl, rfl, rfl, mineZ_of_own h.1, mineR_of_own h.2⟩
theorem lw_of_mine {B C : Nat} {w : World} {q k : Int} {sl sc : Value} {ls : IRow} {cs : Row} (h : MineLn B C w sl sc ls cs) (hC : C ≤ w.heap.size) : ∃ x : Lw, x.sl = sl ∧ x.sc = sc ∧ x.ln = ⟨q, ls, k, cs⟩ ∧ MineLw B w x := by
  obtain ⟨a1, c1, rfl⟩ := h.z.here.len
  obtain ⟨a2, c2, rfl⟩ := h.r.here.len
  exact ⟨⟨a1, c1, a2, c2, ⟨q, ls, k, cs⟩⟩, rfl, rfl, rfl, h.z.mono (Nat.le_refl _) hC, h.r.mono (Nat.le_refl _) hC⟩

/-- How many cells it has. -/
def sizeD (d : Doc) : Nat := (d.map (·.cs.length)).sum
theorem sizeD_append (d e : Doc) : sizeD (d ++ e) = sizeD d + sizeD e := by unfold sizeD; rw [List.map_append, List.sum_append]
theorem sizeD_cons (x : Ln) (d : Doc) : sizeD (x :: d) = x.cs.length + sizeD d := by simp [sizeD]

/-! ### a part of a slice of lines -/
theorem SliceAt.cut {w : World} {v : Value} {l : List Lw} (hv : SliceAt w v l) (f t : Nat) (hft : f ≤ t) (ht : t ≤ l.length) :
    ∃ v', SliceAt w v' ((l.drop f).take (t - f)) ∧ ∀ W, (Instr.slice 22 v (some (.int .i64 (f : Int))) (some (.int .i64 (t : Int))) none).run Tryz.prog W = .ok v' W := by
  have hel : (Tryz.prog.underlying 22) = some (.slice (Tryz.prog.elem 22)) := by kernel_rfl
  have hsz : ∀ W, (sizeOf (Tryz.prog.elem 22)).run Tryz.prog W = .ok 4 W := fun W => by
    have : Tryz.prog.elem 22 = 46 := by kernel_rfl
    rw [this]; exact Tryz.sizeOf46 W
  have hln : ((l.drop f).take (t - f)).length = t - f := by simp; omega
  rcases hv with ⟨a, c, rfl, hac, hcm, rfl⟩ | ⟨b, o, c, rfl, hlc, hcm, hbb, hcs⟩
  · obtain rfl : t = 0 := by simpa using ht
    obtain rfl : f = 0 := by omega
    refine ⟨sliced a 0 0 c 4, ?_, fun W => ?_⟩
    · refine .inl ⟨_, _, rfl, ?_, by simpa using hcm, by simp⟩
      intro h
      split at h
      · simpa using hac h
      · cases a with
        | none => simpa using hac rfl
        | some a => simp at h
    · rw [run_slice_lh W _ a 0 c hel _ _ _ _ (by omega) (by omega) (by omega), hsz]; rfl
  · refine ⟨sliced (some ⟨b, o, none⟩) f t c 4, ?_, fun W => ?_⟩
    · unfold sliced
      by_cases hcf : c = f
      · rw [if_pos hcf]
        have e0 : t - f = 0 := by omega
        rw [e0]
        exact .inl ⟨_, _, rfl, fun h => (by cases h), by omega, by simp⟩
      · rw [if_neg hcf]
        refine .inr ⟨b, o + f * 4, c - f, by rw [hln]; simp [Addr.add_lit], by omega, by omega, hbb, hcs.part f (t - f) (by omega)⟩
    · rw [run_slice_lh W _ _ l.length c hel _ _ _ _ (by omega) (by omega) (by omega), hsz]; simp [Result.andThen]
theorem cut_h {w : World} {v : Value} {l : List Lw} (hv : SliceAt w v l) (t : Nat) (ht : t ≤ l.length) :
    ∃ v', SliceAt w v' (l.take t) ∧ ∀ W, (Instr.slice 22 v none (some (.int .i64 (t : Int))) none).run Tryz.prog W = .ok v' W := by
  obtain ⟨v', h1, h2⟩ := hv.cut 0 t (Nat.zero_le _) ht
  refine ⟨v', by simpa using h1, fun W => ?_⟩
  have hel : (Tryz.prog.underlying 22) = some (.slice (Tryz.prog.elem 22)) := by kernel_rfl
  obtain ⟨a, c, rfl, hc1, hc2⟩ := hv.cap
  rw [← h2 W, run_slice_lh W _ a l.length c hel _ _ _ _ (by omega) (by omega) (by omega), run_slice_h W _ a l.length c hel _ _ (by omega) (by omega)]
  rfl
theorem cut_l {w : World} {v : Value} {l : List Lw} (hv : SliceAt w v l) (f : Nat) (hf : f ≤ l.length) :
    ∃ v', SliceAt w v' (l.drop f) ∧ ∀ W, (Instr.slice 22 v (some (.int .i64 (f : Int))) none none).run Tryz.prog W = .ok v' W := by
  obtain ⟨v', h1, h2⟩ := hv.cut f l.length hf (Nat.le_refl _)
  refine ⟨v', by rw [List.take_of_length_le (by simp)] at h1; exact h1, fun W => ?_⟩
  have hel : (Tryz.prog.underlying 22) = some (.slice (Tryz.prog.elem 22)) := by kernel_rfl
  obtain ⟨a, c, rfl, hc1, hc2⟩ := hv.cap
  rw [← h2 W, run_slice_lh W _ a l.length c hel _ _ _ _ (by omega) (by omega) (by omega), run_slice_l W _ a l.length c hel _ _ (by omega) (by omega)]
  simp
theorem DocAt.take {w : World} {v v' : Value} {l : List Lw} {t : Nat} (h : DocAt w v l) (hs : SliceAt w v' (l.take t)) : DocAt w v' (l.take t) := ⟨hs, fun x hx => h.n x (List.mem_of_mem_take hx)⟩
theorem DocAt.drop {w : World} {v v' : Value} {l : List Lw} {t : Nat} (h : DocAt w v l) (hs : SliceAt w v' (l.drop t)) : DocAt w v' (l.drop t) := ⟨hs, fun x hx => h.n x (List.mem_of_mem_drop hx)⟩

end Go.Proofs.YtafincmcmgedbaaGreatDoor

namespace Go.Proofs.YtafincmcmgedbaaGreatDoor
open Go.RowKit Go.Lib

instance : Inhabited Ln := ⟨ln0⟩
theorem pl_get (l : List Lw) (j : Nat) (h : j < l.length) : (pl l)[j]! = (l[j]!).ln := by
  rw [List.getElem!_eq_getElem?_getD, pl_at l j h]; rfl
/-- How many cells a line has. -/
def cnt (d : Doc) (i : Nat) : Nat := (d[i]!).cs.length
abbrev Ps : Type := Int × Int
def cmpI (a b : Int) : Int := if a < b then -1 else if a = b then 0 else 1
def cmpP (a b : Ps) : Int := if cmpI a.1 b.1 ≠ 0 then cmpI a.1 b.1 else cmpI a.2 b.2
def isD (d : Doc) (p : Ps) : Bool := decide (0 ≤ p.1 ∧ p.1 < d.length) && decide (0 ≤ p.2 ∧ p.2 ≤ cnt d p.1.toNat)
def endD (d : Doc) : Ps := if d.length = 0 then (0, 0) else (((d.length - 1 : Nat) : Int), (cnt d (d.length - 1) : Int))
def clampD (d : Doc) (p : Ps) : Ps := if p.1 < 0 then (0, 0) else if (d.length : Int) ≤ p.1 then endD d else (p.1, min (max p.2 0) (cnt d p.1.toNat))
/-- How many steps lead to a place. -/
def offN (d : Doc) (i k : Nat) : Nat := sizeD (d.take i) + i + k
def offsetD (d : Doc) (p : Ps) : Int × Int := if isD d p then ((offN d p.1.toNat p.2.toNat : Nat), 0) else (0, 1)
def atL : Doc → Nat → Int → Ps × Int
  | [], _, _ => ((0, 0), 1)
  | x :: d, i, n => if n ≤ x.cs.length then (((i : Int), n), 0) else atL d (i + 1) (n - (x.cs.length + 1))
def atD (d : Doc) (n : Int) : Ps × Int := if n < 0 then ((0, 0), 1) else atL d 0 n
def stepD (d : Doc) (p : Ps) (z : Int) : Ps × Bool :=
  if (offsetD d (endD d)).1 - (offsetD d (clampD d p)).1 < z then (endD d, false) else ((atD d ((offsetD d (clampD d p)).1 + z)).1, decide ((atD d ((offsetD d (clampD d p)).1 + z)).2 = 0))

theorem cmpI_le {a b : Int} : cmpI a b ≤ 0 ↔ a ≤ b := by unfold cmpI; split <;> (try split) <;> omega
theorem cmpP_le {a b : Ps} : cmpP a b ≤ 0 ↔ a.1 < b.1 ∨ a.1 = b.1 ∧ a.2 ≤ b.2 := by
  unfold cmpP cmpI
  split <;> split <;> (try split) <;> (try split) <;> simp_all <;> omega
theorem cmpP_lt {a b : Ps} : cmpP a b < 0 ↔ a.1 < b.1 ∨ a.1 = b.1 ∧ a.2 < b.2 := by
  unfold cmpP cmpI
  split <;> split <;> (try split) <;> (try split) <;> simp_all <;> omega
theorem cmpP_eq {a b : Ps} : cmpP a b = 0 ↔ a = b := by
  obtain ⟨a1, a2⟩ := a
  obtain ⟨b1, b2⟩ := b
  unfold cmpP cmpI
  simp only [Prod.mk.injEq]
  split <;> split <;> (try split) <;> (try split) <;> simp_all <;> omega
theorem cmpP_cases (a b : Ps) : cmpP a b = -1 ∨ cmpP a b = 0 ∨ cmpP a b = 1 := by
  unfold cmpP cmpI
  split <;> split <;> (try split) <;> (try split) <;> simp_all <;> omega
theorem isD_iff {d : Doc} {p : Ps} : isD d p = true ↔ (0 ≤ p.1 ∧ p.1 < d.length) ∧ 0 ≤ p.2 ∧ p.2 ≤ cnt d p.1.toNat := by
  unfold isD; simp only [Bool.and_eq_true, decide_eq_true_eq]
/-- A place that may be, in numbers. -/
theorem isD_nat {d : Doc} {p : Ps} (h : isD d p = true) : ∃ i k : Nat, p = ((i : Int), (k : Int)) ∧ i < d.length ∧ k ≤ cnt d i := by
  obtain ⟨⟨h1, h2⟩, h3, h4⟩ := isD_iff.1 h
  obtain ⟨p1, p2⟩ := p
  exact ⟨p1.toNat, p2.toNat, by dsimp only at *; rw [Int.toNat_of_nonneg h1, Int.toNat_of_nonneg h3], by dsimp only at *; omega, by dsimp only at *; omega⟩
theorem isD_mk {d : Doc} {i k : Nat} (h1 : i < d.length) (h2 : k ≤ cnt d i) : isD d ((i : Int), (k : Int)) = true :=
  isD_iff.2 ⟨⟨Int.natCast_nonneg _, by dsimp only; omega⟩, Int.natCast_nonneg _, by dsimp only; rw [Int.toNat_natCast]; omega⟩
theorem cnt_succ (x : Ln) (d : Doc) (i : Nat) : cnt (x :: d) (i + 1) = cnt d i := by simp [cnt]
theorem cnt_zero (x : Ln) (d : Doc) : cnt (x :: d) 0 = x.cs.length := by simp [cnt]
theorem offN_succ (x : Ln) (d : Doc) (i k : Nat) : offN (x :: d) (i + 1) k = x.cs.length + 1 + offN d i k := by
  unfold offN; rw [List.take_succ_cons, sizeD_cons]; omega
theorem offN_zero (d : Doc) (k : Nat) : offN d 0 k = k := by simp [offN, sizeD]
theorem atL_off : ∀ (d : Doc) (j i k : Nat), i < d.length → k ≤ cnt d i → atL d j (offN d i k : Nat) = ((((j + i : Nat) : Int), (k : Int)), 0)
  | [], _, _, _, h, _ => by simp at h
  | x :: d, j, 0, k, _, h => by
    rw [cnt_zero] at h
    unfold atL
    rw [offN_zero, if_pos (by omega)]; simp
  | x :: d, j, i + 1, k, h1, h2 => by
    rw [cnt_succ] at h2
    have ih := atL_off d (j + 1) i k (by simpa using h1) h2
    unfold atL
    rw [offN_succ, if_neg (by omega)]
    rw [show ((x.cs.length + 1 + offN d i k : Nat) : Int) - ((x.cs.length : Int) + 1) = (offN d i k : Nat) by omega, ih]
    rw [show j + 1 + i = j + (i + 1) by omega]
/-- Each number is a place's, or behind the end. -/
theorem atL_is : ∀ (d : Doc) (j : Nat) (n : Nat), (∃ i k, i < d.length ∧ k ≤ cnt d i ∧ offN d i k = n ∧ atL d j (n : Nat) = ((((j + i : Nat) : Int), (k : Int)), 0)) ∨ (sizeD d + d.length ≤ n ∧ atL d j (n : Nat) = ((0, 0), 1))
  | [], j, n => .inr ⟨by simp [sizeD], rfl⟩
  | x :: d, j, n => by
    by_cases h : n ≤ x.cs.length
    · refine .inl ⟨0, n, by simp, by rw [cnt_zero]; exact h, offN_zero _ _, ?_⟩
      unfold atL
      rw [if_pos (by omega)]; simp
    · have e : (n : Int) - ((x.cs.length : Int) + 1) = ((n - (x.cs.length + 1) : Nat) : Int) := by omega
      have hu : atL (x :: d) j (n : Nat) = atL d (j + 1) ((n - (x.cs.length + 1) : Nat) : Int) := by
        show (if ((n : Nat) : Int) ≤ x.cs.length then _ else _) = _
        rw [if_neg (by omega), e]
      rcases atL_is d (j + 1) (n - (x.cs.length + 1)) with ⟨i, k, h1, h2, h3, h4⟩ | ⟨h1, h2⟩
      · exact .inl ⟨i + 1, k, by simpa using h1, by rw [cnt_succ]; exact h2, by rw [offN_succ]; omega, by rw [hu, h4, show j + 1 + i = j + (i + 1) by omega]⟩
      · exact .inr ⟨by rw [sizeD_cons, List.length_cons]; omega, by rw [hu, h2]⟩
theorem sizeD_take_le (d : Doc) (i : Nat) : sizeD (d.take i) ≤ sizeD d := by
  have := sizeD_append (d.take i) (d.drop i)
  rw [List.take_append_drop] at this
  omega
theorem sizeD_next {d : Doc} {i : Nat} (h : i < d.length) : sizeD (d.take (i + 1)) = sizeD (d.take i) + cnt d i := by
  rw [List.take_succ_eq_append_getElem h, sizeD_append]
  simp [sizeD, cnt, h]
theorem cnt_le {d : Doc} {i : Nat} (h : i < d.length) : sizeD (d.take i) + cnt d i ≤ sizeD d := by
  have h1 := sizeD_take_le d (i + 1)
  rw [sizeD_next h] at h1
  exact h1
theorem offN_lt {d : Doc} {i k : Nat} (h1 : i < d.length) (h2 : k ≤ cnt d i) : offN d i k < sizeD d + d.length := by
  have := cnt_le h1
  unfold offN; omega
theorem offN_inj {d : Doc} {i k i' k' : Nat} (h1 : i < d.length) (h2 : k ≤ cnt d i) (h3 : i' < d.length) (h4 : k' ≤ cnt d i') (h : offN d i k = offN d i' k') : i = i' ∧ k = k' := by
  have a := atL_off d 0 i k h1 h2
  have b := atL_off d 0 i' k' h3 h4
  rw [h, b] at a
  simp only [Nat.zero_add, Prod.mk.injEq, and_true] at a
  omega
theorem offN_end {d : Doc} (h : 0 < d.length) : offN d (d.length - 1) (cnt d (d.length - 1)) + 1 = sizeD d + d.length := by
  have h1 := sizeD_next (d := d) (i := d.length - 1) (by omega)
  rw [show d.length - 1 + 1 = d.length by omega, List.take_length] at h1
  unfold offN; omega
theorem offsetD_mk {d : Doc} {i k : Nat} (h1 : i < d.length) (h2 : k ≤ cnt d i) : offsetD d ((i : Int), (k : Int)) = (((offN d i k : Nat) : Int), 0) := by
  unfold offsetD
  rw [if_pos (isD_mk h1 h2)]; simp
theorem endD_pos {d : Doc} (h : 0 < d.length) : endD d = (((d.length - 1 : Nat) : Int), (cnt d (d.length - 1) : Int)) := by unfold endD; rw [if_neg (by omega)]
theorem endD_is {d : Doc} (h : 0 < d.length) : isD d (endD d) = true := by rw [endD_pos h]; exact isD_mk (by omega) (Nat.le_refl _)
theorem clampD_is {d : Doc} (h : 0 < d.length) (p : Ps) : isD d (clampD d p) = true := by
  unfold clampD
  split
  · exact isD_iff.2 ⟨⟨Int.le_refl _, by dsimp only; omega⟩, Int.le_refl _, by dsimp only; omega⟩
  · split
    · exact endD_is h
    · refine isD_iff.2 ⟨⟨by dsimp only; omega, by dsimp only; omega⟩, by dsimp only; omega, by dsimp only; omega⟩
theorem clampD_self {d : Doc} {p : Ps} (h : isD d p = true) : clampD d p = p := by
  obtain ⟨⟨h1, h2⟩, h3, h4⟩ := isD_iff.1 h
  unfold clampD
  rw [if_neg (by omega), if_neg (by omega)]
  obtain ⟨p1, p2⟩ := p
  dsimp only at *
  rw [Prod.mk.injEq]
  omega
theorem clampD_nil {d : Doc} (h : d.length = 0) (p : Ps) : clampD d p = (0, 0) := by
  unfold clampD endD
  rw [h, if_pos rfl]
  split
  · rfl
  · rw [if_pos (by omega)]

end Go.Proofs.YtafincmcmgedbaaGreatDoor

namespace Go.Proofs.YtafincmcmgedbaaGreatDoor
open Go.RowKit Go.Lib

/-- Two places of a document, in order. -/
structure Span (d : Doc) (al aa bl ba : Nat) : Prop where
  hb : bl < d.length
  hab : al ≤ bl
  hka : aa ≤ cnt d al
  hkb : ba ≤ cnt d bl
  one : al = bl → aa ≤ ba
def frN (al aa i : Nat) : Nat := if i = al then aa else 0
def toN (d : Doc) (bl ba i : Nat) : Nat := if i = bl then ba else cnt d i
abbrev St : Type := Nat × Nat × Nat
def stN (d : Doc) (al aa bl ba i : Nat) : St := (i, frN al aa i, toN d bl ba i)
/-- The stretches between both, from line i on. -/
def strsF (d : Doc) (al aa bl ba i : Nat) : List St := (List.range' i (bl + 1 - i)).map (stN d al aa bl ba)
def strs (d : Doc) (al aa bl ba : Nat) : List St := strsF d al aa bl ba al
theorem strsF_step (d : Doc) (al aa bl ba i : Nat) (h : i ≤ bl) : strsF d al aa bl ba i = stN d al aa bl ba i :: strsF d al aa bl ba (i + 1) := by
  unfold strsF
  rw [show bl + 1 - i = (bl + 1 - (i + 1)) + 1 by omega, List.range'_succ]
  rfl
theorem strsF_end (d : Doc) (al aa bl ba i : Nat) (h : bl < i) : strsF d al aa bl ba i = [] := by
  unfold strsF
  rw [show bl + 1 - i = 0 by omega]
  rfl
theorem strs_mem {d : Doc} {al aa bl ba : Nat} {s : St} (h : s ∈ strs d al aa bl ba) : al ≤ s.1 ∧ s.1 ≤ bl ∧ s = stN d al aa bl ba s.1 := by
  unfold strs strsF at h
  obtain ⟨i, hi, rfl⟩ := List.mem_map.1 h
  rw [List.mem_range'_1] at hi
  exact ⟨hi.1, by show i ≤ bl; omega, rfl⟩
theorem strs_length (d : Doc) (al aa bl ba : Nat) : (strs d al aa bl ba).length = bl + 1 - al := by simp [strs, strsF]
theorem Span.fit {d : Doc} {al aa bl ba : Nat} (h : Span d al aa bl ba) {i : Nat} (h1 : al ≤ i) (h2 : i ≤ bl) : frN al aa i ≤ toN d bl ba i ∧ toN d bl ba i ≤ cnt d i := by
  obtain ⟨hb, hab, haa, hba, hone⟩ := h
  unfold frN toN
  by_cases e1 : i = al <;> by_cases e2 : i = bl
  · subst e1; subst e2; rw [if_pos rfl, if_pos rfl]; exact ⟨hone rfl, hba⟩
  · subst e1; rw [if_pos rfl, if_neg e2]; exact ⟨haa, Nat.le_refl _⟩
  · subst e2; rw [if_neg e1, if_pos rfl]; exact ⟨Nat.zero_le _, hba⟩
  · rw [if_neg e1, if_neg e2]; exact ⟨Nat.zero_le _, Nat.le_refl _⟩
/-- What is made of a line's row. -/
def lnWith (x : Ln) (r : Row) : Ln := ⟨x.q, x.ls, x.k, r⟩
def atS (d : Doc) (u : Row → Nat → Nat → Row) (s : St) : Ln := lnWith d[s.1]! (u (d[s.1]!).cs s.2.1 s.2.2)
def eachD (d : Doc) (u : Row → Nat → Nat → Row) (ss : List St) : Doc := ss.map (atS d u)
def replaceD (d : Doc) (al bl : Nat) (ws : Doc) : Doc := d.take al ++ ws ++ d.drop (bl + 1)
def countL (ss : List St) : Nat := (ss.map (fun s => s.2.2 - s.2.1)).sum
def partU (r : Row) (f t : Nat) : Row := (r.drop f).take (t - f)
def deleteD (d : Doc) (al aa bl ba : Nat) : Doc := replaceD d al bl [lnWith d[al]! ((d[al]!).cs.take aa ++ (d[bl]!).cs.drop ba)]
def insertD (d : Doc) (i k : Nat) (m : Row) : Doc := replaceD d i i [lnWith d[i]! ((d[i]!).cs.take k ++ m ++ (d[i]!).cs.drop k)]

end Go.Proofs.YtafincmcmgedbaaGreatDoor

namespace Go.Proofs.YtafincmcmgedbaaGreatDoor
open Go.RowKit Go.Lib

/-- Lines in a slice of its own: the lines' rows are whose they were. -/
def OwnPostD (l : List Lw) (w : World) (e : Ending) (w' : World) : Prop := ∃ v, e = .returned v ∧ w'.ownsRow w.heap.size 46 4 v l.length (cellsD l) ∧ Below w.heap.size w w'
theorem own_appD {w : World} {B : Nat} {v : Value} {l m : List Lw} {n k : Nat} (h : w.ownsRow B 46 4 v (n + k) (cellsD l ++ cellsD m)) (hn : l.length = n) (hk : m.length = k) : w.ownsRow B 46 4 v (l ++ m).length (cellsD (l ++ m)) := by
  subst hn hk
  rw [List.length_append, cellsD_append]
  exact h

/-- **append(s, m..)**: s a row of one's own, m a row. -/
theorem wpList_append_doc {ops : Array Oper} {rest : List Oper} {o : Oper} {a : Act} {Q : Exit → Act → World → Prop} {w : World} (hgd : o.guard = none) (s x : Operand)
    (ho : o.op = .call { callee := .builtin .append, args := #[s, x], argTypes := #[22, 22] })
    (base : Nat) (v : Value) (l : List Lw) (hs : a.eval s = v) (hown : w.ownsRow base 46 4 v l.length (cellsD l)) (u : Value) (m : List Lw) (hx : a.eval x = u) (hu : SliceAt w u m)
    (hb : l.length + m.length ≤ 1000000) (hbase : base ≤ w.heap.size)
    (h : ∀ v' w', w'.ownsRow base 46 4 v' (l ++ m).length (cellsD (l ++ m)) → w.grownBy w' v.ownBlock → wpList Tryz.prog ops Q rest (a.put o.dst v') w') : wpList Tryz.prog ops Q (o :: rest) a w := by
  obtain ⟨i0, hi, hz0, hz1, hz2⟩ := info_parts infoLine
  rcases hu with ⟨ad, c, rfl, hac, _, rfl⟩ | ⟨b, o1, c, rfl, hlc, hcm, hbb, hcs⟩
  · cases ad with
    | none =>
      obtain rfl := hac rfl
      refine wpList_append_own_none hgd s x 22 ho base 46 i0 4 Tryz.underlying22 hi v _ _ hs hown hx (h v w ?_ (grownBy_refl _ _))
      simpa using hown
    | some ad =>
      refine wpList_append_own _ hgd s x 22 ho base 46 i0 _ 4 64 Tryz.underlying22 hi hz0 hz1 hz2 rfl (by decide) v _ _ hs hown ad 0 c [] hx rfl (by simp) (by simp) (by unfold maxLen; omega) (by omega) hbase (fun v' w' h1 h2 _ => h v' w' ?_ h2)
      simpa using h1
  · refine wpList_append_own _ hgd s x 22 ho base 46 i0 _ 4 64 Tryz.underlying22 hi hz0 hz1 hz2 rfl (by decide) v _ _ hs hown ⟨b, o1, none⟩ m.length c (cellsD m) hx (cellsD_length m) hcs.addF (cellsD_one m) (by unfold maxLen; omega) (by omega) hbase (fun v' w' h1 h2 _ => h v' w' (own_appD h1 rfl rfl) h2)

theorem growD_any (n : Nat) (w : World) (hn : n ≤ 200000) :
    Calls Tryz.prog 131 #[.slice none 0 0, .int .i64 n] w (OwnPostD [] w) := by
  by_cases h0 : n = 0
  · subst h0
    refine (Any8.slices_Grow_room Tryz.laysGrowL none 0 0 0 w (by omega) (by omega) (by omega) (by omega)).mono ?_
    rintro e w' ⟨rfl, rfl⟩
    exact ⟨_, rfl, World.ownsRow_nil _ _ _ _, Below.refl _ _⟩
  · obtain ⟨i0, hi, hz0, hz1, hz2⟩ := info_parts infoLine
    refine (Any8.slices_Grow_grow Tryz.laysGrowL i0 _ hi hz0 (by rw [hz1]; decide) none 0 0 n [] w (by omega) (by omega) (by rw [hz2]; omega) (by omega) (by simp) (fun _ => rfl) (fun a h => by cases h)).mono ?_
    rintro e w' ⟨rfl, rfl⟩
    have h1 := grownCap_ge w (0 + n) 0 46
    have h2 := grownCap_le_maxLen w (0 + n) 0 46 (by unfold maxLen; omega)
    refine ⟨_, rfl, World.ownsRow_made w.drew _ _ (Nat.le_refl _) h2 ?_, ((Below.refl _ w).drew).alloc (Nat.le_refl _) _⟩
    rw [Array.size_append, Array.size_append, size_zeroCells, size_zeroCells]
    show 0 + (0 + n - 0) * 4 + (grownCap w (0 + n) 0 46 - (0 + n)) * 4 = grownCap w (0 + n) 0 46 * 4
    omega

/-- Some rows, one behind the other. -/
def flatW (rs : List (Value × List Lw)) : List Lw := rs.flatMap (·.2)
/-- They lie in block g. -/
def SlicesAt (w : World) (g : Nat) (rs : List (Value × List Lw)) : Prop := ∀ j, j < rs.length → w.cell? ⟨g, j, none⟩ = some (rs[j]!).1 ∧ SliceAt w (rs[j]!).1 (rs[j]!).2
theorem SlicesAt.below {w w' : World} {g : Nat} {rs : List (Value × List Lw)} (h : SlicesAt w g rs) (hb : Below w.heap.size w w') : SlicesAt w' g rs := fun j hj =>
  ⟨(hb.cell (p := ⟨g, j, none⟩) (lt_of_cell' (h j hj).1)).trans (h j hj).1, (h j hj).2.below hb⟩
theorem flatW_next {rs : List (Value × List Lw)} {k : Nat} (h : k < rs.length) : flatW (rs.take (k + 1)) = flatW (rs.take k) ++ (rs[k]!).2 := by
  unfold flatW
  rw [take_next h, List.flatMap_append]
  simp
theorem flatW_le (rs : List (Value × List Lw)) (k : Nat) : (flatW (rs.take k)).length ≤ (flatW rs).length := by
  have : flatW rs = flatW (rs.take k) ++ flatW (rs.drop k) := by unfold flatW; rw [← List.flatMap_append, List.take_append_drop]
  rw [this, List.length_append]
  omega

set_option maxHeartbeats 8000000 in
theorem concatD_any (g : Nat) (rs : List (Value × List Lw)) (w : World) (hr : SlicesAt w g rs) (hl : (flatW rs).length ≤ 100000) (hn : rs.length ≤ 10) :
    Calls Tryz.prog 111 #[.slice (some ⟨g, 0, none⟩) rs.length rs.length] w (OwnPostD (flatW rs) w) := by
  have R := Lib.hid hr
  clear hr
  obtain ⟨T, hT⟩ : ∃ T, (flatW rs).length = T := ⟨_, rfl⟩
  rw [hT] at hl
  have cG := growD_any T w (by omega)
  obtain ⟨N, hN⟩ : ∃ N, rs.length = N := ⟨_, rfl⟩
  rw [hN] at hn ⊢
  have HN := Lib.hid hN
  have HT := Lib.hid hT
  clear hN hT
  go_enter Tryz.func111, Tryz.ntmps111
  go_wp2
  go_loop [3, 5, 11] (fun s v5 i => ∃ (k n : Nat), k ≤ N ∧ n ≤ T ∧ i = .int .i64 k ∧ s = .int .i64 n ∧ Hid ((flatW (rs.take k)).length = n)) (fun _ _ i => N - (RowKit.intOf i).toNat)
  case atStart => exact ⟨0, 0, Nat.zero_le _, Nat.zero_le _, rfl, rfl, Lib.hid (by simp [flatW])⟩
  case round =>
    obtain ⟨k, n, hk, hnT, rfl, rfl, hkn⟩ := hrel
    by_cases hlt : k < N
    · have hk2 : k < rs.length := by rw [HN.out]; exact hlt
      obtain ⟨hc, hro⟩ := R.out k hk2
      obtain ⟨a, c, ev⟩ := hro.len
      rw [ev] at hc
      have hnx := congrArg List.length (flatW_next hk2)
      rw [List.length_append, hkn.out] at hnx
      have hle := flatW_le rs (k + 1)
      rw [HT.out] at hle
      obtain ⟨m, hm⟩ : ∃ m, (rs[k]!).2.length = m := ⟨_, rfl⟩
      rw [hm] at hc hnx
      rw [hnx] at hle
      have HX := Lib.hid hnx
      clear hnx hm ev hro hkn hk2
      go_wp2
      go_round
      case rel => exact ⟨k + 1, n + m, hlt, hle, by go_num, by go_num, HX⟩
      case measure => simp [RowKit.intOf]; omega
    · have hkN : k = N := by omega
      subst hkN
      have hnT2 : n = T := by
        have := hkn.out
        rw [List.take_of_length_le (by rw [HN.out]; omega), HT.out] at this
        exact this.symm
      subst hnT2
      clear hkn hlt
      go_wp2_with (go_at_call 131; ((with_reducible refine cG.mono ?_); rintro e w1 ⟨v0, rfl, hown0, hb0⟩))
      have hz := hb0.size
      clear cG
      go_loopw [6, 8, 27] (fun v s8 i wr => ∃ (j : Nat) (l : List Lw), j ≤ k ∧ i = .int .i64 j ∧ Hid (flatW (rs.take j) = l) ∧ wr.ownsRow w.heap.size 46 4 v l.length (cellsD l) ∧ Below w.heap.size w wr) (fun _ _ i _ => k - (RowKit.intOf i).toNat)
      case atStart => exact ⟨0, [], Nat.zero_le _, rfl, Lib.hid (by simp [flatW]), hown0, hb0⟩
      case round =>
        obtain ⟨j, l, hj, rfl, hjl, hown, hb⟩ := hrel
        have hsz := hb.size
        by_cases hlt : j < k
        · have hj2 : j < rs.length := by rw [HN.out]; exact hlt
          obtain ⟨hc, hro⟩ := (R.out.below hb) j hj2
          obtain ⟨u, hu⟩ : ∃ u, (rs[j]!).1 = u := ⟨_, rfl⟩
          rw [hu] at hc hro
          have hnx := flatW_next hj2
          rw [hjl.out] at hnx
          have hle := flatW_le rs (j + 1)
          rw [HT.out, hnx, List.length_append] at hle
          obtain ⟨m, hm⟩ : ∃ m, (rs[j]!).2 = m := ⟨_, rfl⟩
          rw [hm] at hro hnx hle
          have HX := Lib.hid hnx
          have HO := Lib.hid hro
          clear hnx hm hu hjl hro hj2
          go_wp2_with (at_builtin; refine wpList_append_doc rfl _ _ rfl w.heap.size _ l rfl hown u m rfl HO.out (by omega) hsz ?_; intro v' w2 hown' hgrow)
          go_roundw
          case rel => exact ⟨j + 1, _, hlt, by go_num, HX, hown', below_grown hb hsz hown hgrow⟩
          case measure => simp [RowKit.intOf]; omega
        · have hjk : j = k := by omega
          subst hjk
          have hl2 : flatW rs = l := by rw [← hjl.out, List.take_of_length_le (by rw [HN.out]; omega)]
          have HL := Lib.hid hl2
          clear hl2 hjl
          go_wp2
          go_ret
          rw [HL.out]
          exact ⟨_, rfl, hown, hb⟩

/-- One, two, three rows in a slice that was just made. -/
theorem concatD1 (g : Nat) (v1 : Value) (l1 : List Lw) (w : World) (c1 : w.cell? ⟨g, 0, none⟩ = some v1) (h1 : SliceAt w v1 l1) (hl : l1.length ≤ 100000) :
    Calls Tryz.prog 111 #[.slice (some ⟨g, 0, none⟩) 1 1] w (OwnPostD l1 w) := by
  have h := concatD_any g [(v1, l1)] w (fun j hj => ?_) (by simpa [flatW] using hl) (by simp)
  · have e : flatW [(v1, l1)] = l1 := by simp [flatW]
    rw [e] at h
    exact h
  · match j, hj with
    | 0, _ => exact ⟨c1, h1⟩
theorem concatD2 (g : Nat) (v1 v2 : Value) (l1 l2 : List Lw) (w : World) (c1 : w.cell? ⟨g, 0, none⟩ = some v1) (c2 : w.cell? ⟨g, 1, none⟩ = some v2) (h1 : SliceAt w v1 l1) (h2 : SliceAt w v2 l2) (hl : l1.length + l2.length ≤ 100000) :
    Calls Tryz.prog 111 #[.slice (some ⟨g, 0, none⟩) 2 2] w (OwnPostD (l1 ++ l2) w) := by
  have h := concatD_any g [(v1, l1), (v2, l2)] w (fun j hj => ?_) (by simpa [flatW] using hl) (by simp)
  · have e : flatW [(v1, l1), (v2, l2)] = l1 ++ l2 := by simp [flatW]
    rw [e] at h
    exact h
  · match j, hj with
    | 0, _ => exact ⟨c1, h1⟩
    | 1, _ => exact ⟨c2, h2⟩
theorem concatD3 (g : Nat) (v1 v2 v3 : Value) (l1 l2 l3 : List Lw) (w : World) (c1 : w.cell? ⟨g, 0, none⟩ = some v1) (c2 : w.cell? ⟨g, 1, none⟩ = some v2) (c3 : w.cell? ⟨g, 2, none⟩ = some v3) (h1 : SliceAt w v1 l1) (h2 : SliceAt w v2 l2) (h3 : SliceAt w v3 l3) (hl : l1.length + l2.length + l3.length ≤ 100000) :
    Calls Tryz.prog 111 #[.slice (some ⟨g, 0, none⟩) 3 3] w (OwnPostD (l1 ++ l2 ++ l3) w) := by
  have h := concatD_any g [(v1, l1), (v2, l2), (v3, l3)] w (fun j hj => ?_) (by simp [flatW]; omega) (by simp)
  · have e : flatW [(v1, l1), (v2, l2), (v3, l3)] = l1 ++ l2 ++ l3 := by simp [flatW]
    rw [e] at h
    exact h
  · match j, hj with
    | 0, _ => exact ⟨c1, h1⟩
    | 1, _ => exact ⟨c2, h2⟩
    | 2, _ => exact ⟨c3, h3⟩


end Go.Proofs.YtafincmcmgedbaaGreatDoor

namespace Go.Proofs.YtafincmcmgedbaaGreatDoor
open Go.RowKit Go.Lib

def outdentS (L : Ln) : Int × Ln := if 0 < L.ls.length then (0, { L with ls := L.ls.take (L.ls.length - 1) }) else if 0 < L.q then (0, { L with q := L.q - 1 }) else (7, ln0)
def listS (kind : Int) (L : Ln) : Int × Ln := if L.ls.length = 0 then (0, { L with ls := [kind], k := 0 }) else if L.ls[L.ls.length - 1]! = kind then (7, ln0) else (0, { L with ls := L.ls.set (L.ls.length - 1) kind })
def formatS (kind : Int) (L : Ln) : Int × Ln := if 0 < L.ls.length ∨ L.k = kind then (7, ln0) else (0, { L with k := kind })
def freeS (L : Ln) : Int × Ln := if L.k = 0 then outdentS L else (0, { L with k := 0 })
/-- What a call does to the line in block b. -/
def DoPost (B b : Nat) (r : Int × Ln) (w : World) (e : Ending) (w' : World) : Prop :=
  e = .returned (.int .i64 r.1) ∧ Below B w w' ∧ (r.1 = 0 → ∃ sl sc, BoxAt w' b r.2.q sl r.2.k sc ∧ MineLn B w'.heap.size w' sl sc r.2.ls r.2.cs)

theorem mineZ_take {B C : Nat} {w : World} {g o c : Nat} {ls : IRow} (h : MineZ B C w (.slice (some ⟨g, o, none⟩) ls.length c) ls) (n : Nat) (hn : n ≤ ls.length) (h0 : 0 < n) : MineZ B C w (.slice (some ⟨g, o, none⟩) n n) (ls.take n) := by
  have hl : 0 < ls.length := by omega
  obtain ⟨m1, m2, m3⟩ := h.mine hl g o _ _ rfl
  obtain ⟨b', o', c', h1, h2, h3, h4, h5⟩ := h.here.lies hl
  simp only [Value.slice.injEq, Option.some.injEq, Addr.mk.injEq, and_true, true_and] at h1
  obtain ⟨⟨rfl, rfl⟩, rfl⟩ := h1
  have hln : (ls.take n).length = n := by simp; omega
  refine ⟨.inr ⟨g, o, n, by rw [hln], by omega, by omega, h4, ?_⟩, fun _ g' o' n' c' e => ?_⟩
  · have := h5.part 0 n (by omega)
    simpa using this
  · simp only [Value.slice.injEq, Option.some.injEq, Addr.mk.injEq, and_true] at e
    obtain ⟨⟨rfl, rfl⟩, _⟩ := e
    exact ⟨m1, m2, fun j hj => m3 j (by omega)⟩
theorem mineZ_nil (B C : Nat) (w : World) (g o : Nat) : MineZ B C w (.slice (some ⟨g, o, none⟩) 0 0) [] := ⟨.inl ⟨_, _, rfl, (fun h => by cases h), by decide, rfl⟩, fun h => absurd h (by decide)⟩
theorem mineZ_zero {w : World} {B C B' C' : Nat} {v : Value} {ls : IRow} (h : MineZ B C w v ls) (h0 : ls.length = 0) : MineZ B' C' w v ls := ⟨h.here, fun hl => absurd hl (by omega)⟩

theorem BoxAt.set0 {w : World} {b : Nat} {q k : Int} {sl sc : Value} (h : BoxAt w b q sl k sc) (u : Int) : BoxAt (w.setCell ⟨b, 0, none⟩ (.int .i64 u)) b u sl k sc := by
  obtain ⟨lt, c0, c1, c2, c3, f0, f1, f2, f3⟩ := h
  refine ⟨by simpa [World.setCell] using lt, ?_, ?_, ?_, ?_, ?_, ?_, ?_, ?_⟩ <;> simp [go_sem, *]
theorem BoxAt.set1 {w : World} {b : Nat} {q k : Int} {sl sc : Value} (h : BoxAt w b q sl k sc) (u : Value) : BoxAt (w.setCell ⟨b, 1, none⟩ u) b q u k sc := by
  obtain ⟨lt, c0, c1, c2, c3, f0, f1, f2, f3⟩ := h
  refine ⟨by simpa [World.setCell] using lt, ?_, ?_, ?_, ?_, ?_, ?_, ?_, ?_⟩ <;> simp [go_sem, *]
theorem BoxAt.set2 {w : World} {b : Nat} {q k : Int} {sl sc : Value} (h : BoxAt w b q sl k sc) (u : Int) : BoxAt (w.setCell ⟨b, 2, none⟩ (.int .i64 u)) b q sl u sc := by
  obtain ⟨lt, c0, c1, c2, c3, f0, f1, f2, f3⟩ := h
  refine ⟨by simpa [World.setCell] using lt, ?_, ?_, ?_, ?_, ?_, ?_, ?_, ?_⟩ <;> simp [go_sem, *]
theorem BoxAt.set3 {w : World} {b : Nat} {q k : Int} {sl sc : Value} (h : BoxAt w b q sl k sc) (u : Value) : BoxAt (w.setCell ⟨b, 3, none⟩ u) b q sl k u := by
  obtain ⟨lt, c0, c1, c2, c3, f0, f1, f2, f3⟩ := h
  refine ⟨by simpa [World.setCell] using lt, ?_, ?_, ?_, ?_, ?_, ?_, ?_, ?_⟩ <;> simp [go_sem, *]
theorem mine_box {B C : Nat} {w : World} {b j : Nat} {sl sc : Value} {ls : IRow} {cs : Row} (h : MineLn B C w sl sc ls cs) (hC : C ≤ b) (hb : b < w.heap.size) (u : Value) : MineLn B (w.setCell ⟨b, j, none⟩ u).heap.size (w.setCell ⟨b, j, none⟩ u) sl sc ls cs :=
  (h.kept (kept_set w ⟨b, j, none⟩ u (.inr hC))).mono (Nat.le_refl _) (by simp [World.setCell]; omega)
theorem below_box {B C b j : Nat} {w : World} (hBC : B ≤ C) (hC : C ≤ b) (u : Value) : Below B w (w.setCell ⟨b, j, none⟩ u) := (Below.refl _ w).setCell (p := ⟨b, j, none⟩) (Nat.le_trans hBC hC) _

end Go.Proofs.YtafincmcmgedbaaGreatDoor

namespace Go.Proofs.YtafincmcmgedbaaGreatDoor
open Go.RowKit Go.Lib

theorem MineR.keptAt {B C : Nat} {w w' : World} {v : Value} {cs : Row} (h : MineR B C w v cs) (hs : w.heap.size ≤ w'.heap.size) (hk : 0 < cs.length → ∀ g o n c, v = .slice (some ⟨g, o, none⟩) n c → w'.heap[g]? = w.heap[g]?) : MineR B C w' v cs := by
  by_cases hl : 0 < cs.length
  · obtain ⟨b, o, c, h1, h2, h3, h4, h5⟩ := h.here.lies hl
    have e := hk hl b o _ c h1
    refine ⟨.inr ⟨b, o, c, h1, h2, h3, Nat.lt_of_lt_of_le h4 hs, fun j hj => ?_⟩, fun _ g' o' n' c' e' => ?_⟩
    · obtain ⟨x1, x2, x3⟩ := h5 j hj
      exact ⟨(World.cell?_of_block (w := w) (a := ⟨b, _, none⟩) e).trans x1, (World.cell?_of_block (w := w) (a := ⟨b, _, none⟩) e).trans x2, (World.cell?_of_block (w := w) (a := ⟨b, _, none⟩) e).trans x3⟩
    · obtain ⟨m1, m2, m3⟩ := h.mine hl g' o' n' c' e'
      exact ⟨m1, m2, fun j hj => (World.frozen?_of_block (w := w) (a := ⟨g', _, none⟩) (hk hl _ _ _ _ e')).trans (m3 j hj)⟩
  · rcases h.here with h1 | ⟨b, o, c, h1, h2, h3, h4, h5⟩
    · exact ⟨.inl h1, fun h => absurd h hl⟩
    · exact ⟨.inr ⟨b, o, c, h1, h2, h3, Nat.lt_of_lt_of_le h4 hs, fun j hj => absurd hj (by omega)⟩, fun h => absurd h hl⟩
theorem mineLn_set {B C : Nat} {w : World} {g o c n : Nat} {sc : Value} {ls : IRow} {cs : Row} (h : MineLn B C w (.slice (some ⟨g, o, none⟩) n c) sc ls cs) (j : Nat) (hj : j < ls.length) (u : Int) :
    MineLn B C (w.setCell ⟨g, o + j, none⟩ (.int .i64 u)) (.slice (some ⟨g, o, none⟩) n c) sc (ls.set j u) cs := by
  have hl : 0 < ls.length := by omega
  obtain ⟨m1, m2, m3⟩ := h.z.mine hl g o n c rfl
  obtain ⟨b', o', c', h1, h2, h3, h4, h5⟩ := h.z.here.lies hl
  simp only [Value.slice.injEq, Option.some.injEq, Addr.mk.injEq, and_true] at h1
  obtain ⟨⟨rfl, rfl⟩, rfl, rfl⟩ := h1
  refine ⟨⟨.inr ⟨g, o, c, by rw [List.length_set], by rw [List.length_set]; exact h2, h3, by simpa [World.setCell] using h4, fun i hi => ?_⟩, fun _ g' o' n' c' e => ?_⟩, ?_, ?_⟩
  · rw [List.length_set] at hi
    have hx := h5 i hi
    by_cases e : i = j
    · subst e
      have hgi : (ls.set i u)[i]! = u := by rw [List.getElem!_eq_getElem?_getD, List.getElem?_set_self hi]; rfl
      rw [hgi]
      simp [go_sem, hx]
    · have hgi : (ls.set j u)[i]! = ls[i]! := by rw [List.getElem!_eq_getElem?_getD, List.getElem!_eq_getElem?_getD, List.getElem?_set_ne (by omega)]
      rw [hgi, ← hx]
      first
        | (simp [go_sem]; done)
        | (simp [go_sem]; omega)
        | (simp [go_sem]; intro h; exact absurd h.symm e)
  · simp only [Value.slice.injEq, Option.some.injEq, Addr.mk.injEq, and_true] at e
    obtain ⟨⟨rfl, rfl⟩, _⟩ := e
    exact ⟨m1, m2, fun i hi => by rw [List.length_set] at hi; have := m3 i hi; simpa [go_sem] using this⟩
  · refine h.r.keptAt (by simp [World.setCell]) (fun hc g' o' n' c' e => ?_)
    exact Below.heap_setCell w _ _ _ (fun e2 => h.ap hl hc _ _ _ _ _ _ _ _ rfl e e2.symm)
  · intro h1 h2
    exact h.ap (by rw [List.length_set] at h1; exact h1) h2
theorem cell_blkZ {w : World} {g : Nat} {cs : Array Value} {t : TypeId} (h : w.heap[g]? = some (.cells cs t)) (j : Nat) (v : Value) (hv : cs[j]? = some v) : w.cell? ⟨g, j, none⟩ = some v := by
  rw [cell_of_row w g j cs t (0, 0) h]; exact hv
/-- Ints in a block that was just made. -/
theorem mineZ_new (B : Nat) (w : World) (l : IRow) (n : Nat) (cs : Array Value) (t : TypeId) (hcs : cs.toList = cellsZ l) (hn : l.length = n) (hB : B ≤ w.heap.size) (hl : n ≤ 1000) : MineZ B (w.heap.size + 1) (w.alloc (.cells cs t)) (.slice (some ⟨w.heap.size, 0, none⟩) n n) l := by
  subst hn
  refine ⟨.inr ⟨w.heap.size, 0, l.length, rfl, Nat.le_refl _, by unfold maxLen; omega, by simp, Ints.of_flat (fun j u hu => ?_)⟩, fun _ g o n c e => ?_⟩
  · rw [Nat.zero_add]
    exact cell_blkZ (World.alloc_heap_new w _) j u (by rw [← Array.getElem?_toList, hcs]; exact hu)
  · simp only [Value.slice.injEq, Option.some.injEq, Addr.mk.injEq, and_true] at e
    obtain ⟨⟨rfl, rfl⟩, _⟩ := e
    exact ⟨hB, by omega, fun j _ => frozen_cells (World.alloc_heap_new w _) _⟩

end Go.Proofs.YtafincmcmgedbaaGreatDoor

namespace Go.Proofs.YtafincmcmgedbaaGreatDoor
open Go.RowKit Go.Lib

def placesL : Doc → Nat → List Ps
  | [], _ => []
  | x :: d, i => (List.range (x.cs.length + 1)).map (fun k : Nat => ((i : Int), (k : Int))) ++ placesL d (i + 1)
def places (d : Doc) : List Ps := placesL d 0
theorem placesL_length : ∀ (d : Doc) (i : Nat), (placesL d i).length = sizeD d + d.length
  | [], _ => rfl
  | x :: d, i => by
    have ih := placesL_length d (i + 1)
    unfold placesL
    rw [List.length_append, ih, sizeD_cons, List.length_map, List.length_range, List.length_cons]
    omega
theorem places_length (d : Doc) : (places d).length = sizeD d + d.length := placesL_length d 0
theorem placesL_off : ∀ (d : Doc) (j i k : Nat), i < d.length → k ≤ cnt d i → (placesL d j)[offN d i k]? = some (((j + i : Nat) : Int), (k : Int))
  | [], _, _, _, h, _ => by simp at h
  | x :: d, j, 0, k, _, h => by
    rw [cnt_zero] at h
    unfold placesL
    rw [offN_zero, List.getElem?_append_left (by simp; omega), List.getElem?_map, List.getElem?_range (by omega)]
    rfl
  | x :: d, j, i + 1, k, h1, h2 => by
    rw [cnt_succ] at h2
    have ih := placesL_off d (j + 1) i k (by simpa using h1) h2
    unfold placesL
    rw [offN_succ, List.getElem?_append_right (by rw [List.length_map, List.length_range]; omega), List.length_map, List.length_range, show x.cs.length + 1 + offN d i k - (x.cs.length + 1) = offN d i k by omega, ih]
    rw [show j + 1 + i = j + (i + 1) by omega]
theorem places_off {d : Doc} {i k : Nat} (h1 : i < d.length) (h2 : k ≤ cnt d i) : (places d)[offN d i k]? = some ((i : Int), (k : Int)) := by
  have := placesL_off d 0 i k h1 h2
  rwa [Nat.zero_add] at this
/-- What stands at a number: a place that may be, of that number. -/
theorem places_is {d : Doc} {n : Nat} (h : n < (places d).length) : ∃ i k, i < d.length ∧ k ≤ cnt d i ∧ offN d i k = n ∧ (places d)[n]? = some ((i : Int), (k : Int)) := by
  rw [places_length] at h
  rcases atL_is d 0 n with ⟨i, k, h1, h2, h3, _⟩ | ⟨h1, _⟩
  · exact ⟨i, k, h1, h2, h3, h3 ▸ places_off h1 h2⟩
  · omega
/-- The first number at which a place stands, from number k on. -/
def findP (l : List Ps) (p : Ps) : Nat → Nat → Int × Int
  | 0, _ => (0, 1)
  | n + 1, k => if l[k]! = p then ((k : Int), 0) else findP l p n (k + 1)
theorem findP_off {d : Doc} {i k : Nat} (h1 : i < d.length) (h2 : k ≤ cnt d i) : ∀ n j, j ≤ offN d i k → offN d i k < j + n → j + n ≤ (places d).length → findP (places d) ((i : Int), (k : Int)) n j = (((offN d i k : Nat) : Int), 0)
  | 0, j, ha, hb, _ => by omega
  | n + 1, j, ha, hb, hc => by
    obtain ⟨i', k', g1, g2, g3, g4⟩ := places_is (d := d) (n := j) (by omega)
    have e : (places d)[j]! = ((i' : Int), (k' : Int)) := by rw [List.getElem!_eq_getElem?_getD, g4]; rfl
    unfold findP
    rw [e]
    by_cases hj : j = offN d i k
    · obtain ⟨rfl, rfl⟩ := offN_inj g1 g2 h1 h2 (g3.trans hj)
      rw [if_pos rfl, hj]
    · rw [if_neg (fun h => hj (by
        simp only [Prod.mk.injEq] at h
        obtain ⟨rfl, rfl⟩ : i' = i ∧ k' = k := ⟨by omega, by omega⟩
        exact g3.symm)), findP_off h1 h2 n (j + 1) (by omega) (by omega) (by omega)]
theorem findP_none {d : Doc} {p : Ps} (h : isD d p = false) : ∀ n j, j + n ≤ (places d).length → findP (places d) p n j = (0, 1)
  | 0, _, _ => rfl
  | n + 1, j, hc => by
    obtain ⟨i', k', g1, g2, g3, g4⟩ := places_is (d := d) (n := j) (by omega)
    have e : (places d)[j]! = ((i' : Int), (k' : Int)) := by rw [List.getElem!_eq_getElem?_getD, g4]; rfl
    unfold findP
    rw [e, if_neg (fun h2 => by rw [← h2, isD_mk g1 g2] at h; cases h), findP_none h n (j + 1) (by omega)]
theorem findP_is (d : Doc) (p : Ps) : findP (places d) p (places d).length 0 = offsetD d p := by
  cases h : isD d p with
  | false =>
    unfold offsetD
    rw [findP_none h _ _ (by omega), h]; rfl
  | true =>
    obtain ⟨i, k, rfl, h1, h2⟩ := isD_nat h
    have := offN_lt h1 h2
    rw [offsetD_mk h1 h2, findP_off h1 h2 (places d).length 0 (Nat.zero_le _) (by rw [places_length]; omega) (by omega)]
def atP (d : Doc) (n : Int) : Ps × Int := if n < 0 ∨ ((places d).length : Int) ≤ n then ((0, 0), 1) else ((places d)[n.toNat]!, 0)
theorem atP_is (d : Doc) (n : Int) : atP d n = atD d n := by
  unfold atP atD
  by_cases h0 : n < 0
  · rw [if_pos (.inl h0), if_pos h0]
  · obtain ⟨m, rfl⟩ : ∃ m : Nat, n = m := ⟨n.toNat, by omega⟩
    rw [if_neg h0]
    rcases atL_is d 0 m with ⟨i, k, h1, h2, h3, h4⟩ | ⟨h1, h2⟩
    · have := offN_lt h1 h2
      rw [if_neg (by rw [places_length]; omega), h4, ← h3, Int.toNat_natCast, List.getElem!_eq_getElem?_getD, places_off h1 h2, Nat.zero_add]
      rfl
    · rw [if_pos (.inr (by rw [places_length]; omega)), h2]
/-- The document's step. -/
def stepP (d : Doc) (p : Ps) (z : Int) : Ps × Bool :=
  if (places d).length = 0 then ((0, 0), false) else
  let n := (offsetD d (clampD d p)).1
  if z < -n then ((places d)[0]!, false) else if (places d).length - n ≤ z then ((places d)[(places d).length - 1]!, false) else ((places d)[(n + z).toNat]!, true)
theorem stepP_is (d : Doc) (p : Ps) (z : Int) : stepP d p z = stepD d p z := by
  unfold stepP stepD
  rw [places_length]
  by_cases h0 : d.length = 0
  · obtain rfl := List.eq_nil_of_length_eq_zero h0
    rw [if_pos (by simp [sizeD]), clampD_nil rfl]
    have e : endD ([] : Doc) = (0, 0) := rfl
    have e2 : offsetD ([] : Doc) (0, 0) = (0, 1) := rfl
    rw [e, e2]
    by_cases hz : (0 : Int) - 0 < z
    · rw [if_pos hz]
    · rw [if_neg hz]
      unfold atD
      split <;> rfl
  · have hp : 0 < d.length := by omega
    have hs : ¬ sizeD d + d.length = 0 := by omega
    rw [if_neg hs]
    obtain ⟨i, k, hc, h1, h2⟩ := isD_nat (clampD_is hp p)
    have he : (offsetD d (endD d)).1 = (sizeD d + d.length : Nat) - 1 := by
      rw [endD_pos hp, offsetD_mk (by omega) (Nat.le_refl _)]
      have := offN_end hp
      omega
    have hl : (places d)[sizeD d + d.length - 1]! = endD d := by
      have := places_off (d := d) (i := d.length - 1) (k := cnt d (d.length - 1)) (by omega) (Nat.le_refl _)
      rw [show offN d (d.length - 1) (cnt d (d.length - 1)) = sizeD d + d.length - 1 by have := offN_end hp; omega] at this
      rw [List.getElem!_eq_getElem?_getD, this, endD_pos hp]; rfl
    have h00 : (places d)[0]! = (0, 0) := by
      have := places_off (d := d) (i := 0) (k := 0) hp (Nat.zero_le _)
      rw [offN_zero] at this
      rw [List.getElem!_eq_getElem?_getD, this]; rfl
    have ho := offN_lt h1 h2
    rw [he, hc, offsetD_mk h1 h2, hl, h00]
    dsimp only
    obtain ⟨n, hn⟩ : ∃ n, offN d i k = n := ⟨_, rfl⟩
    rw [hn] at ho ⊢
    by_cases hz : z < -(n : Int)
    · rw [if_pos hz, if_neg (by omega)]
      unfold atD
      rw [if_pos (by omega)]; rfl
    · rw [if_neg hz]
      by_cases hz2 : ((sizeD d + d.length : Nat) : Int) - n ≤ z
      · rw [if_pos hz2, if_pos (by omega)]
      · rw [if_neg hz2, if_neg (by omega)]
        have ha := atP_is d (n + z)
        unfold atP at ha
        rw [if_neg (by rw [places_length]; omega)] at ha
        rw [← ha]; rfl

end Go.Proofs.YtafincmcmgedbaaGreatDoor

namespace Go.Proofs.YtafincmcmgedbaaGreatDoor
open Go.RowKit Go.Lib

structure Spoilt (B : Nat) (w w' : World) : Prop where
  b : Below B w w'
  f : ∀ p, w'.frozen? p = w.frozen? p
  s : w'.heap.size = w.heap.size
  c : ∀ p v, w.cell? p = some v → w'.cell? p = some v ∨ (∃ z, v = .int .i64 z) ∧ ∃ z', w'.cell? p = some (.int .i64 z')
theorem Spoilt.refl (B : Nat) (w : World) : Spoilt B w w := ⟨Below.refl _ _, fun _ => rfl, rfl, fun _ _ h => .inl h⟩
theorem Spoilt.trans {B : Nat} {x y z : World} (h : Spoilt B x y) (k : Spoilt B y z) : Spoilt B x z :=
  ⟨h.b.trans k.b, fun p => (k.f p).trans (h.f p), k.s.trans h.s, fun p v hv => by
    rcases h.c p v hv with h1 | ⟨⟨a, rfl⟩, a', h1⟩
    · exact k.c p v h1
    · rcases k.c p _ h1 with h2 | ⟨_, h2⟩
      · exact .inr ⟨⟨_, rfl⟩, _, h2⟩
      · exact .inr ⟨⟨_, rfl⟩, h2⟩⟩
theorem Spoilt.set {B : Nat} {w w1 : World} (h : Spoilt B w w1) {p : Addr} (hp : B ≤ p.block) {z : Int} (hz : w1.cell? p = some (.int .i64 z)) (u : Int) : Spoilt B w (w1.setCell p (.int .i64 u)) := by
  refine h.trans ⟨(Below.refl _ _).setCell hp _, fun q => by rw [World.frozen?_setCell], by simp [World.setCell], fun q v hv => ?_⟩
  by_cases e : p = q
  · subst e
    rw [hz] at hv
    cases hv
    exact .inr ⟨⟨_, rfl⟩, _, World.cell?_setCell_same _ _ _ hz⟩
  · exact .inl ((World.cell?_setCell_other _ _ _ _ e).trans hv)
theorem Spoilt.int {B : Nat} {w w' : World} (h : Spoilt B w w') {p : Addr} {z : Int} (hz : w.cell? p = some (.int .i64 z)) : ∃ z', w'.cell? p = some (.int .i64 z') := by
  rcases h.c p _ hz with h1 | ⟨_, h1⟩
  · exact ⟨_, h1⟩
  · exact h1
theorem Spoilt.slice {B : Nat} {w w' : World} (h : Spoilt B w w') {p : Addr} {a : Option Addr} {n c : Nat} (hz : w.cell? p = some (.slice a n c)) : w'.cell? p = some (.slice a n c) := by
  rcases h.c p _ hz with h1 | ⟨⟨_, e⟩, _⟩
  · exact h1
  · cases e
theorem Spoilt.frozen {B : Nat} {w w' : World} (h : Spoilt B w w') {p : Addr} (hf : w.frozen? p = false) : w'.frozen? p = false := (h.f p).trans hf

end Go.Proofs.YtafincmcmgedbaaGreatDoor
