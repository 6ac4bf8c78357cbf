/-
  Two lines of one's own, laid into two variables, in whatever order these are made.
-/
import Derived.Test.YtmlipcedkgfmiaaDoorDocOps
namespace Go.Proofs.YtmlipcedkgfmiaaDoor
open Go.RowKit Go.Lib

def NotB (v d : Value) (p : Nat) : Prop := v.ownBlock ≠ some p ∧ d.ownBlock ≠ some p
theorem notB_lo {w : World} {B p : Nat} {v d : Value} {ls : IRow} {cs : Row} (h : OwnLn B w v d ls cs) (hp : p < B) : NotB v d p := ⟨own_ne h.1 hp, own_ne h.2 hp⟩
theorem notB_hi {w : World} {B p : Nat} {v d : Value} {ls : IRow} {cs : Row} (h : OwnLn B w v d ls cs) (hp : w.heap.size ≤ p) : NotB v d p := ⟨own_ne2 h.1 hp, own_ne2 h.2 hp⟩
theorem OwnLn.set {w : World} {B : Nat} {v d u : Value} {ls : IRow} {cs : Row} {p : Addr} (h : OwnLn B w v d ls cs) (hp : NotB v d p.block) : OwnLn B (w.setCell p u) v d ls cs := ⟨own_set2 h.1 hp.1, own_set2 h.2 hp.2⟩
theorem OwnLn.put {w : World} {B r : Nat} {v d s c : Value} {q k : Int} {ls : IRow} {cs : Row} (h : OwnLn B w v d ls cs) (hp : NotB v d r) : OwnLn B (put4 w r q s k c) v d ls cs := (((h.set (p := ⟨r, 0, none⟩) hp).set (p := ⟨r, 1, none⟩) hp).set (p := ⟨r, 2, none⟩) hp).set (p := ⟨r, 3, none⟩) hp

/-- The two lines, the two variables. -/
def TwoB (B : Nat) (W : World) (s7 s8 : Value) (q1 k1 q2 k2 : Int) (ls1 ls2 : IRow) (cs1 cs2 : Row) (wx : World) : Prop :=
  ∃ p7 p8 v1 d1 v2 d2, s7 = .pointer (some ⟨p7, 0, none⟩) ∧ s8 = .pointer (some ⟨p8, 0, none⟩) ∧ BoxAt wx p7 q1 v1 k1 d1 ∧ BoxAt wx p8 q2 v2 k2 d2 ∧ OwnLn B wx v1 d1 ls1 cs1 ∧ OwnLn B wx v2 d2 ls2 cs2 ∧ p7 ≠ p8 ∧ B ≤ p7 ∧ B ≤ p8 ∧ NotB v1 d1 p7 ∧ NotB v1 d1 p8 ∧ NotB v2 d2 p7 ∧ NotB v2 d2 p8 ∧ Below B W wx

section
variable {B p7 p8 : Nat} {W w4 : World} {q1 k1 q2 k2 q5 k5 q6 k6 : Int} {v1 d1 v2 d2 s5 c5 s6 c6 : Value} {ls1 ls2 : IRow} {cs1 cs2 : Row}
theorem two_put (hb : Below B W w4) (h7 : BoxAt w4 p7 q5 s5 k5 c5) (h8 : BoxAt w4 p8 q6 s6 k6 c6) (hne : p7 ≠ p8) (h7B : B ≤ p7) (h8B : B ≤ p8) (o1 : OwnLn B w4 v1 d1 ls1 cs1) (o2 : OwnLn B w4 v2 d2 ls2 cs2) (n17 : NotB v1 d1 p7) (n18 : NotB v1 d1 p8) (n27 : NotB v2 d2 p7) (n28 : NotB v2 d2 p8) :
    TwoB B W (.pointer (some ⟨p7, 0, none⟩)) (.pointer (some ⟨p8, 0, none⟩)) q1 k1 q2 k2 ls1 ls2 cs1 cs2 (put4 (put4 w4 p7 q1 v1 k1 d1) p8 q2 v2 k2 d2) :=
  ⟨p7, p8, v1, d1, v2, d2, rfl, rfl, put4_far (put4_box h7) hne, put4_box (put4_far h8 (Ne.symm hne)), (o1.put n17).put n18, (o2.put n27).put n28, hne, h7B, h8B, n17, n18, n27, n28, put4_below (put4_below hb h7B) h8B⟩
theorem two_mix7 (hb : Below B W w4) (h7 : BoxAt w4 p7 q5 s5 k5 c5) (h7B : B ≤ p7) (h8B : B ≤ w4.heap.size) (o1 : OwnLn B w4 v1 d1 ls1 cs1) (o2 : OwnLn B w4 v2 d2 ls2 cs2) (n17 : NotB v1 d1 p7) (n27 : NotB v2 d2 p7) :
    TwoB B W (.pointer (some ⟨p7, 0, none⟩)) (.pointer (some ⟨w4.heap.size, 0, none⟩)) q1 k1 q2 k2 ls1 ls2 cs1 cs2 ((put4 w4 p7 q1 v1 k1 d1).alloc (.cells #[.int .i64 q2, v2, .int .i64 k2, d2] 25)) := by
  have hs := put4_size w4 p7 q1 k1 v1 d1
  have A := (Below.refl (put4 w4 p7 q1 v1 k1 d1).heap.size (put4 w4 p7 q1 v1 k1 d1)).alloc (Nat.le_refl _) (.cells #[.int .i64 q2, v2, .int .i64 k2, d2] 25)
  have hx := box_new (put4 w4 p7 q1 v1 k1 d1) q2 k2 v2 d2
  have hbp := put4_below (q := q1) (k := k1) (sl := v1) (sc := d1) hb h7B
  have a1 := h7.lt
  rw [hs] at hx
  exact ⟨p7, _, v1, d1, v2, d2, rfl, rfl, (put4_box h7).below A, hx, (o1.put n17).below A, (o2.put n27).below A, Nat.ne_of_lt a1, h7B, h8B, n17, notB_hi o1 (Nat.le_refl _), n27, notB_hi o2 (Nat.le_refl _), hbp.trans (A.mono (by rw [hs]; exact h8B))⟩
theorem two_mix8 (hb : Below B W w4) (h8 : BoxAt w4 p8 q5 s5 k5 c5) (h8B : B ≤ p8) (h7B : B ≤ w4.heap.size) (o1 : OwnLn B w4 v1 d1 ls1 cs1) (o2 : OwnLn B w4 v2 d2 ls2 cs2) (n18 : NotB v1 d1 p8) (n28 : NotB v2 d2 p8) :
    TwoB B W (.pointer (some ⟨w4.heap.size, 0, none⟩)) (.pointer (some ⟨p8, 0, none⟩)) q1 k1 q2 k2 ls1 ls2 cs1 cs2 ((put4 w4 p8 q2 v2 k2 d2).alloc (.cells #[.int .i64 q1, v1, .int .i64 k1, d1] 25)) := by
  have hs := put4_size w4 p8 q2 k2 v2 d2
  have A := (Below.refl (put4 w4 p8 q2 v2 k2 d2).heap.size (put4 w4 p8 q2 v2 k2 d2)).alloc (Nat.le_refl _) (.cells #[.int .i64 q1, v1, .int .i64 k1, d1] 25)
  have hx := box_new (put4 w4 p8 q2 v2 k2 d2) q1 k1 v1 d1
  have hbp := put4_below (q := q2) (k := k2) (sl := v2) (sc := d2) hb h8B
  have a1 := h8.lt
  rw [hs] at hx
  exact ⟨_, p8, v1, d1, v2, d2, rfl, rfl, hx, (put4_box h8).below A, (o1.put n18).below A, (o2.put n28).below A, (Nat.ne_of_lt a1).symm, h7B, h8B, notB_hi o1 (Nat.le_refl _), n18, notB_hi o2 (Nat.le_refl _), n28, hbp.trans (A.mono (by rw [hs]; exact h7B))⟩
theorem two_new78 (hb : Below B W w4) (hB : B ≤ w4.heap.size) (o1 : OwnLn B w4 v1 d1 ls1 cs1) (o2 : OwnLn B w4 v2 d2 ls2 cs2) :
    TwoB B W (.pointer (some ⟨w4.heap.size, 0, none⟩)) (.pointer (some ⟨w4.heap.size + 1, 0, none⟩)) q1 k1 q2 k2 ls1 ls2 cs1 cs2 ((w4.alloc (.cells #[.int .i64 q1, v1, .int .i64 k1, d1] 25)).alloc (.cells #[.int .i64 q2, v2, .int .i64 k2, d2] 25)) := by
  obtain ⟨g1, g2, g3⟩ := box_two w4 q1 k1 q2 k2 v1 d1 v2 d2
  exact ⟨_, _, v1, d1, v2, d2, rfl, rfl, g2, g3, o1.below g1, o2.below g1, by omega, hB, by omega, notB_hi o1 (Nat.le_refl _), notB_hi o1 (Nat.le_succ _), notB_hi o2 (Nat.le_refl _), notB_hi o2 (Nat.le_succ _), hb.trans (g1.mono hB)⟩
theorem two_new87 (hb : Below B W w4) (hB : B ≤ w4.heap.size) (o1 : OwnLn B w4 v1 d1 ls1 cs1) (o2 : OwnLn B w4 v2 d2 ls2 cs2) :
    TwoB B W (.pointer (some ⟨w4.heap.size + 1, 0, none⟩)) (.pointer (some ⟨w4.heap.size, 0, none⟩)) q1 k1 q2 k2 ls1 ls2 cs1 cs2 ((w4.alloc (.cells #[.int .i64 q2, v2, .int .i64 k2, d2] 25)).alloc (.cells #[.int .i64 q1, v1, .int .i64 k1, d1] 25)) := by
  obtain ⟨g1, g2, g3⟩ := box_two w4 q2 k2 q1 k1 v2 d2 v1 d1
  exact ⟨_, _, v1, d1, v2, d2, rfl, rfl, g3, g2, o1.below g1, o2.below g1, by omega, by omega, hB, notB_hi o1 (Nat.le_succ _), notB_hi o1 (Nat.le_refl _), notB_hi o2 (Nat.le_succ _), notB_hi o2 (Nat.le_refl _), hb.trans (g1.mono hB)⟩
end
theorem bcell {B : Nat} {W w1 : World} (hb : Below W.heap.size W w1) : (∀ b o, B ≤ b → b < W.heap.size → w1.cell? ⟨b, o, none⟩ = W.cell? ⟨b, o, none⟩) ∧ (∀ b o, B ≤ b → b < W.heap.size → w1.frozen? ⟨b, o, none⟩ = W.frozen? ⟨b, o, none⟩) :=
  ⟨fun b o _ h => hb.cell (p := ⟨b, o, none⟩) h, fun b o _ h => hb.frozen (p := ⟨b, o, none⟩) h⟩

end Go.Proofs.YtmlipcedkgfmiaaDoor
