/-
  The document's Indent, Outdent, Format, Free, List.
  Two lines of one's own, laid into two variables, in whatever order these are made.
-/
import Derived.Test.YtafincmcmgedbaaGreatDoorCAsking
import Derived.Test.YtafincmcmgedbaaGreatDoorCLMay
import Derived.Test.YtafincmcmgedbaaGreatDoorCDocLn

namespace Go.Proofs.YtafincmcmgedbaaGreatDoor
open Go.RowKit Go.Lib

/-- What the document answers: a code, and a line that reads. -/
def LnPost9 (r : Int × Ln) (w : World) (e : Ending) (w' : World) : Prop :=
  ∃ sl sc, e = .returned (.tuple #[.agg #[.int .i64 r.2.q, sl, .int .i64 r.2.k, sc], .int .i64 r.1]) ∧ OwnLn w.heap.size w' sl sc r.2.ls r.2.cs ∧ Below w.heap.size w w'
theorem own_nil (B : Nat) (w : World) : OwnLn B w (.slice none 0 0) (.slice none 0 0) [] [] := ⟨World.ownsRow_nil _ _ _ _, World.ownsRow_nil _ _ _ _⟩
/-- A line is stored into the answer's block; a block is made beside. -/
theorem doc_one {B r : Nat} {w w2 : World} {sl sc : Value} {ls : IRow} {cs : Row} (h : OwnLn B w2 sl sc ls cs) (hr : r < B) (hb : Below w.heap.size w w2) (hr0 : w.heap.size ≤ r) (q k : Int) (s c : Value) (o : Obj) :
    OwnLn w.heap.size ((put4 w2 r q s k c).alloc o) sl sc ls cs ∧ Below w.heap.size w ((put4 w2 r q s k c).alloc o) := by
  have hp := put4_below (q := q) (k := k) (sl := s) (sc := c) hb hr0
  exact ⟨((put4_own (q := q) (k := k) (sl := s) (sc := c) h hr).below ((Below.refl _ _).alloc (Nat.le_refl _) _)).mono (by omega), hp.alloc (by rw [put4_size]; exact hb.size) _⟩
/-- A row that was made is laid into the line, the line into the answer. -/
theorem doc_two {B D r p j : Nat} {w w3 : World} {sl sc : Value} {ls : IRow} {cs : Row} (hb : Below w.heap.size w w3) (hr0 : w.heap.size ≤ r) (hp0 : w.heap.size ≤ p) (hB0 : w.heap.size ≤ B) (hD0 : w.heap.size ≤ D)
    (hz : w3.ownsRow B 3 1 sl ls.length (cellsZ ls)) (hc : w3.ownsRow D 66 3 sc cs.length (cellsR cs)) (h1 : sl.ownBlock ≠ some r) (h2 : sl.ownBlock ≠ some p) (h3 : sc.ownBlock ≠ some r) (h4 : sc.ownBlock ≠ some p) (q k : Int) (s c u : Value) :
    OwnLn w.heap.size (put4 (w3.setCell ⟨p, j, none⟩ u) r q s k c) sl sc ls cs ∧ Below w.heap.size w (put4 (w3.setCell ⟨p, j, none⟩ u) r q s k c) :=
  ⟨⟨(own_set2 (own_set2 (own_set2 (own_set2 (own_set2 hz h2) h1) h1) h1) h1).mono hB0, (own_set2 (own_set2 (own_set2 (own_set2 (own_set2 hc h4) h3) h3) h3) h3).mono hD0⟩,
    put4_below (hb.setCell (p := ⟨p, j, none⟩) hp0 _) hr0⟩
theorem box_blk {w : World} {b : Nat} {q k : Int} {sl sc : Value} (h : w.heap[b]? = some (.cells #[.int .i64 q, sl, .int .i64 k, sc] 46)) : BoxAt w b q sl k sc :=
  ⟨(Array.getElem?_eq_some_iff.1 h).1, cell_blkZ h 0 _ rfl, cell_blkZ h 1 _ rfl, cell_blkZ h 2 _ rfl, cell_blkZ h 3 _ rfl, frozen_cells h _, frozen_cells h _, frozen_cells h _, frozen_cells h _⟩
theorem own_apart {w : World} {B D n m : Nat} {v u : Value} {xs ys : List Value} (h1 : w.ownsRow B 3 1 v n xs) (h2 : w.ownsRow D 66 3 u m ys) (g : Nat) (e1 : v.ownBlock = some g) : u.ownBlock ≠ some g := by
  intro e2
  rcases h1.2 with ⟨rfl, _⟩ | ⟨g1, _, cur1, rfl, _, hg1, _⟩
  · simp [Value.ownBlock] at e1
  · rcases h2.2 with ⟨rfl, _⟩ | ⟨g2, _, cur2, rfl, _, hg2, _⟩
    · simp [Value.ownBlock] at e2
    · have k1 : g1 = g := by simpa [Value.ownBlock] using e1
      have k2 : g2 = g := by simpa [Value.ownBlock] using e2
      subst k1
      subst k2
      rw [hg1] at hg2
      have := (Obj.cells.inj (Option.some.inj hg2)).2.1
      exact absurd this (by decide)
theorem own_grown {w w' : World} {row : Option Nat} {B e size n : Nat} {v : Value} {xs : List Value} (hg : w.grownBy w' row) (h : w.ownsRow B e size v n xs) (hne : ∀ g, row = some g → v.ownBlock ≠ some g) : w'.ownsRow B e size v n xs := by
  refine ⟨h.1, ?_⟩
  rcases h.2 with h2 | ⟨g, cap, cur, hv, hb, hc, hrest⟩
  · exact .inl h2
  · subst hv
    refine .inr ⟨g, cap, cur, rfl, hb, (hg.block g (Array.getElem?_eq_some_iff.1 hc).1 ?_).trans hc, hrest⟩
    intro e
    exact hne g e.symm rfl
theorem own_ne3 {w : World} {B e size n p : Nat} {v : Value} {xs : List Value} {bx : Array Value} {t : TypeId} {fz : Nat × Nat} (h : w.ownsRow B e size v n xs) (hp : w.heap[p]? = some (.cells bx t fz)) (hne : e ≠ t) : v.ownBlock ≠ some p := by
  rcases h.2 with ⟨rfl, _⟩ | ⟨g, cap, cur, rfl, hB, hg, _⟩
  · simp [Value.ownBlock]
  · intro e
    have : g = p := by simpa [Value.ownBlock] using e
    subst this
    rw [hg] at hp
    exact hne (Obj.cells.inj (Option.some.inj hp)).2.1
theorem ints_one {w : World} {g : Nat} {x : Int} (h : w.cell? ⟨g, 0, none⟩ = some (.int .i64 x)) : IntsAt w (.slice (some ⟨g, 0, none⟩) 1 1) [x] :=
  .inr ⟨g, 0, 1, rfl, Nat.le_refl _, by decide, lt_of_cell' h, fun j hj => by match j, hj with | 0, _ => exact h⟩
theorem own_ne {w : World} {B e size n r : Nat} {v : Value} {xs : List Value} (h : w.ownsRow B e size v n xs) (hr : r < B) : v.ownBlock ≠ some r := by
  rcases h.2 with ⟨rfl, _⟩ | ⟨g, cap, cur, rfl, hB, _⟩
  · simp [Value.ownBlock]
  · intro e
    have : g = r := by simpa [Value.ownBlock] using e
    omega
theorem own_ne2 {w : World} {B e size n r : Nat} {v : Value} {xs : List Value} (h : w.ownsRow B e size v n xs) (hr : w.heap.size ≤ r) : v.ownBlock ≠ some r := by
  rcases h.2 with ⟨rfl, _⟩ | ⟨g, cap, cur, rfl, hB, hg, _⟩
  · simp [Value.ownBlock]
  · intro e
    have : g = r := by simpa [Value.ownBlock] using e
    have := (Array.getElem?_eq_some_iff.1 hg).1
    omega

end Go.Proofs.YtafincmcmgedbaaGreatDoor

namespace Go.Proofs.YtafincmcmgedbaaGreatDoor
open Go.RowKit Go.Lib

def NotB (v d : Value) (p : Nat) : Prop := v.ownBlock ≠ some p ∧ d.ownBlock ≠ some p
theorem notB_lo {w : World} {B p : Nat} {v d : Value} {ls : IRow} {cs : Row} (h : OwnLn B w v d ls cs) (hp : p < B) : NotB v d p := ⟨own_ne h.1 hp, own_ne h.2 hp⟩
theorem notB_hi {w : World} {B p : Nat} {v d : Value} {ls : IRow} {cs : Row} (h : OwnLn B w v d ls cs) (hp : w.heap.size ≤ p) : NotB v d p := ⟨own_ne2 h.1 hp, own_ne2 h.2 hp⟩
theorem OwnLn.set {w : World} {B : Nat} {v d u : Value} {ls : IRow} {cs : Row} {p : Addr} (h : OwnLn B w v d ls cs) (hp : NotB v d p.block) : OwnLn B (w.setCell p u) v d ls cs := ⟨own_set2 h.1 hp.1, own_set2 h.2 hp.2⟩
theorem OwnLn.put {w : World} {B r : Nat} {v d s c : Value} {q k : Int} {ls : IRow} {cs : Row} (h : OwnLn B w v d ls cs) (hp : NotB v d r) : OwnLn B (put4 w r q s k c) v d ls cs := (((h.set (p := ⟨r, 0, none⟩) hp).set (p := ⟨r, 1, none⟩) hp).set (p := ⟨r, 2, none⟩) hp).set (p := ⟨r, 3, none⟩) hp

/-- The two lines, the two variables. -/
def TwoB (B : Nat) (W : World) (s7 s8 : Value) (q1 k1 q2 k2 : Int) (ls1 ls2 : IRow) (cs1 cs2 : Row) (wx : World) : Prop :=
  ∃ p7 p8 v1 d1 v2 d2, s7 = .pointer (some ⟨p7, 0, none⟩) ∧ s8 = .pointer (some ⟨p8, 0, none⟩) ∧ BoxAt wx p7 q1 v1 k1 d1 ∧ BoxAt wx p8 q2 v2 k2 d2 ∧ OwnLn B wx v1 d1 ls1 cs1 ∧ OwnLn B wx v2 d2 ls2 cs2 ∧ p7 ≠ p8 ∧ B ≤ p7 ∧ B ≤ p8 ∧ NotB v1 d1 p7 ∧ NotB v1 d1 p8 ∧ NotB v2 d2 p7 ∧ NotB v2 d2 p8 ∧ Below B W wx

section
variable {B p7 p8 : Nat} {W w4 : World} {q1 k1 q2 k2 q5 k5 q6 k6 : Int} {v1 d1 v2 d2 s5 c5 s6 c6 : Value} {ls1 ls2 : IRow} {cs1 cs2 : Row}
theorem two_put (hb : Below B W w4) (h7 : BoxAt w4 p7 q5 s5 k5 c5) (h8 : BoxAt w4 p8 q6 s6 k6 c6) (hne : p7 ≠ p8) (h7B : B ≤ p7) (h8B : B ≤ p8) (o1 : OwnLn B w4 v1 d1 ls1 cs1) (o2 : OwnLn B w4 v2 d2 ls2 cs2) (n17 : NotB v1 d1 p7) (n18 : NotB v1 d1 p8) (n27 : NotB v2 d2 p7) (n28 : NotB v2 d2 p8) :
    TwoB B W (.pointer (some ⟨p7, 0, none⟩)) (.pointer (some ⟨p8, 0, none⟩)) q1 k1 q2 k2 ls1 ls2 cs1 cs2 (put4 (put4 w4 p7 q1 v1 k1 d1) p8 q2 v2 k2 d2) :=
  ⟨p7, p8, v1, d1, v2, d2, rfl, rfl, put4_far (put4_box h7) hne, put4_box (put4_far h8 (Ne.symm hne)), (o1.put n17).put n18, (o2.put n27).put n28, hne, h7B, h8B, n17, n18, n27, n28, put4_below (put4_below hb h7B) h8B⟩
theorem two_mix7 (hb : Below B W w4) (h7 : BoxAt w4 p7 q5 s5 k5 c5) (h7B : B ≤ p7) (h8B : B ≤ w4.heap.size) (o1 : OwnLn B w4 v1 d1 ls1 cs1) (o2 : OwnLn B w4 v2 d2 ls2 cs2) (n17 : NotB v1 d1 p7) (n27 : NotB v2 d2 p7) :
    TwoB B W (.pointer (some ⟨p7, 0, none⟩)) (.pointer (some ⟨w4.heap.size, 0, none⟩)) q1 k1 q2 k2 ls1 ls2 cs1 cs2 ((put4 w4 p7 q1 v1 k1 d1).alloc (.cells #[.int .i64 q2, v2, .int .i64 k2, d2] 46)) := by
  have hs := put4_size w4 p7 q1 k1 v1 d1
  have A := (Below.refl (put4 w4 p7 q1 v1 k1 d1).heap.size (put4 w4 p7 q1 v1 k1 d1)).alloc (Nat.le_refl _) (.cells #[.int .i64 q2, v2, .int .i64 k2, d2] 46)
  have hx := box_new (put4 w4 p7 q1 v1 k1 d1) q2 k2 v2 d2
  have hbp := put4_below (q := q1) (k := k1) (sl := v1) (sc := d1) hb h7B
  have a1 := h7.lt
  rw [hs] at hx
  exact ⟨p7, _, v1, d1, v2, d2, rfl, rfl, (put4_box h7).below A, hx, (o1.put n17).below A, (o2.put n27).below A, Nat.ne_of_lt a1, h7B, h8B, n17, notB_hi o1 (Nat.le_refl _), n27, notB_hi o2 (Nat.le_refl _), hbp.trans (A.mono (by rw [hs]; exact h8B))⟩
theorem two_mix8 (hb : Below B W w4) (h8 : BoxAt w4 p8 q5 s5 k5 c5) (h8B : B ≤ p8) (h7B : B ≤ w4.heap.size) (o1 : OwnLn B w4 v1 d1 ls1 cs1) (o2 : OwnLn B w4 v2 d2 ls2 cs2) (n18 : NotB v1 d1 p8) (n28 : NotB v2 d2 p8) :
    TwoB B W (.pointer (some ⟨w4.heap.size, 0, none⟩)) (.pointer (some ⟨p8, 0, none⟩)) q1 k1 q2 k2 ls1 ls2 cs1 cs2 ((put4 w4 p8 q2 v2 k2 d2).alloc (.cells #[.int .i64 q1, v1, .int .i64 k1, d1] 46)) := by
  have hs := put4_size w4 p8 q2 k2 v2 d2
  have A := (Below.refl (put4 w4 p8 q2 v2 k2 d2).heap.size (put4 w4 p8 q2 v2 k2 d2)).alloc (Nat.le_refl _) (.cells #[.int .i64 q1, v1, .int .i64 k1, d1] 46)
  have hx := box_new (put4 w4 p8 q2 v2 k2 d2) q1 k1 v1 d1
  have hbp := put4_below (q := q2) (k := k2) (sl := v2) (sc := d2) hb h8B
  have a1 := h8.lt
  rw [hs] at hx
  exact ⟨_, p8, v1, d1, v2, d2, rfl, rfl, hx, (put4_box h8).below A, (o1.put n18).below A, (o2.put n28).below A, (Nat.ne_of_lt a1).symm, h7B, h8B, notB_hi o1 (Nat.le_refl _), n18, notB_hi o2 (Nat.le_refl _), n28, hbp.trans (A.mono (by rw [hs]; exact h7B))⟩
theorem two_new78 (hb : Below B W w4) (hB : B ≤ w4.heap.size) (o1 : OwnLn B w4 v1 d1 ls1 cs1) (o2 : OwnLn B w4 v2 d2 ls2 cs2) :
    TwoB B W (.pointer (some ⟨w4.heap.size, 0, none⟩)) (.pointer (some ⟨w4.heap.size + 1, 0, none⟩)) q1 k1 q2 k2 ls1 ls2 cs1 cs2 ((w4.alloc (.cells #[.int .i64 q1, v1, .int .i64 k1, d1] 46)).alloc (.cells #[.int .i64 q2, v2, .int .i64 k2, d2] 46)) := by
  obtain ⟨g1, g2, g3⟩ := box_two w4 q1 k1 q2 k2 v1 d1 v2 d2
  exact ⟨_, _, v1, d1, v2, d2, rfl, rfl, g2, g3, o1.below g1, o2.below g1, by omega, hB, by omega, notB_hi o1 (Nat.le_refl _), notB_hi o1 (Nat.le_succ _), notB_hi o2 (Nat.le_refl _), notB_hi o2 (Nat.le_succ _), hb.trans (g1.mono hB)⟩
theorem two_new87 (hb : Below B W w4) (hB : B ≤ w4.heap.size) (o1 : OwnLn B w4 v1 d1 ls1 cs1) (o2 : OwnLn B w4 v2 d2 ls2 cs2) :
    TwoB B W (.pointer (some ⟨w4.heap.size + 1, 0, none⟩)) (.pointer (some ⟨w4.heap.size, 0, none⟩)) q1 k1 q2 k2 ls1 ls2 cs1 cs2 ((w4.alloc (.cells #[.int .i64 q2, v2, .int .i64 k2, d2] 46)).alloc (.cells #[.int .i64 q1, v1, .int .i64 k1, d1] 46)) := by
  obtain ⟨g1, g2, g3⟩ := box_two w4 q2 k2 q1 k1 v2 d2 v1 d1
  exact ⟨_, _, v1, d1, v2, d2, rfl, rfl, g3, g2, o1.below g1, o2.below g1, by omega, by omega, hB, notB_hi o1 (Nat.le_succ _), notB_hi o1 (Nat.le_refl _), notB_hi o2 (Nat.le_succ _), notB_hi o2 (Nat.le_refl _), hb.trans (g1.mono hB)⟩
end
theorem bcell {B : Nat} {W w1 : World} (hb : Below W.heap.size W w1) : (∀ b o, B ≤ b → b < W.heap.size → w1.cell? ⟨b, o, none⟩ = W.cell? ⟨b, o, none⟩) ∧ (∀ b o, B ≤ b → b < W.heap.size → w1.frozen? ⟨b, o, none⟩ = W.frozen? ⟨b, o, none⟩) :=
  ⟨fun b o _ h => hb.cell (p := ⟨b, o, none⟩) h, fun b o _ h => hb.frozen (p := ⟨b, o, none⟩) h⟩

end Go.Proofs.YtafincmcmgedbaaGreatDoor
