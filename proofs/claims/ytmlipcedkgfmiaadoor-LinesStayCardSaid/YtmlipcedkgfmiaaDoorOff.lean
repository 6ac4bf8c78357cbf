/-
  A line whose rows lie off a block; such a line is copied into that block.
-/
import Derived.Test.YtmlipcedkgfmiaaDoorTurn
import Derived.Test.YtmlipcedkgfmiaaDoorAwakeL
import Derived.Test.YtmlipcedkgfmiaaDoorLongL
import Derived.Test.YtmlipcedkgfmiaaDoorLSame
import Derived.Deep.RegionHeld3
namespace Go.Proofs.YtmlipcedkgfmiaaDoor
open Go.RowKit Go.Lib

def Off (b : Nat) (sl sc : Value) (ls : IRow) (cs : Row) : Prop := ∀ g o n c, (sl = .slice (some ⟨g, o, none⟩) n c ∧ 0 < ls.length) ∨ (sc = .slice (some ⟨g, o, none⟩) n c ∧ 0 < cs.length) → g ≠ b
theorem off_mine {B C b : Nat} {w : World} {sl sc : Value} {ls : IRow} {cs : Row} (h : MineLn B C w sl sc ls cs) (hb : b < B ∨ C ≤ b) : Off b sl sc ls cs := by
  rintro g o n c (⟨e, hl⟩ | ⟨e, hl⟩)
  · obtain ⟨h1, h2, _⟩ := h.z.mine hl g o n c e
    omega
  · obtain ⟨h1, h2, _⟩ := h.r.mine hl g o n c e
    omega
theorem off_low {b : Nat} {w : World} {sl sc : Value} {ls : IRow} {cs : Row} (h : LnAt w sl sc ls cs) (hb : w.heap.size ≤ b) : Off b sl sc ls cs := by
  rintro g o n c (⟨e, hl⟩ | ⟨e, hl⟩)
  · obtain ⟨g', o', c', e', _, _, h4, _⟩ := h.z.lies hl
    rw [e'] at e
    simp only [Value.slice.injEq, Option.some.injEq, Addr.mk.injEq, and_true] at e
    omega
  · obtain ⟨g', o', c', e', _, _, h4, _⟩ := h.r.lies hl
    rw [e'] at e
    simp only [Value.slice.injEq, Option.some.injEq, Addr.mk.injEq, and_true] at e
    omega
theorem lnAt_put4 {w : World} {r : Nat} {q k : Int} {s c sl sc : Value} {ls : IRow} {cs : Row} (h : LnAt w sl sc ls cs) (ho : Off r sl sc ls cs) : LnAt (put4 w r q s k c) sl sc ls cs :=
  h.kept (by rw [put4_size]; exact Nat.le_refl _) (fun g o n c hh => put4_block _ _ _ _ _ _ g (ho g o n c hh))
theorem mayS_of {q k : Int} {ls : IRow} {cs : Row} (h1 : mayF q ls k = true) (h2 : mayR cs = true) : mayS ⟨q, ls, k, cs⟩ = true := by rw [mayS_F, h1, h2]; rfl
theorem mayF_len {q k : Int} {ls : IRow} (h : mayF q ls k = true) : ls.length ≤ 6 := (mayF_iff.1 h).2.1.1
theorem sameL_refl' (L : Ln) : sameL L L = true := decide_eq_true ⟨rfl, rfl, rfl, rfl⟩

end Go.Proofs.YtmlipcedkgfmiaaDoor
