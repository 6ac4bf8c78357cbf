/-
  The document's Own, Frame of lines.
-/
import Derived.Test.YtehjfcefkiglaaaDoorCLMay
import Derived.Test.YtehjfcefkiglaaaDoorCConcat
import Derived.Deep.RegionHeld3

namespace Go.Proofs.YtehjfcefkiglaaaDoor
open Go.RowKit Go.Lib

/-- append(s, m..) onto ints of one's own, as a step of a region that draws. -/
theorem step_append_intsG {ops : Array Oper} {o : Oper} {a : Act} {K : Act → World → Prop} {Q : Exit → Act → World → Prop} {E : Prop} {w : World} (hw : Region.wanted o (yielded ops a.tmps) = true) (s x : Operand)
    (ho : o.op = .call { callee := .builtin .append, args := #[s, x], argTypes := #[43, 43] })
    (base : Nat) (v : Value) (l : IRow) (hs : a.eval s = v) (hown : w.ownsRow base 3 1 v l.length (cellsZ l)) (u : Value) (m : IRow) (hx : a.eval x = u) (hu : IntsAt w u m)
    (hb : l.length + m.length ≤ 1000000) (hbase : base ≤ w.heap.size)
    (h : ∀ v' w', w'.ownsRow base 3 1 v' (l ++ m).length (cellsZ (l ++ m)) → w.grownBy w' v.ownBlock → K (a.put o.dst v') w') :
    if Region.wanted o (yielded ops a.tmps) = true then Oper.wp Tryd.prog o a w K Q else E := by
  rw [if_pos hw]
  obtain ⟨i0, hi, hz0, hz1, hz2⟩ := info_parts infoInt
  rcases hu with ⟨ad, c, rfl, hac, _, rfl⟩ | ⟨b, o1, c, rfl, hlc, hcm, hbb, hcs⟩
  · cases ad with
    | none =>
      obtain rfl := hac rfl
      have hrun := run_append_owned_none (P := Tryd.prog) (w := w) base 43 o.type 3 i0 1 Tryd.underlying43 hi v _ _ hown
      have hk := h v w (by simpa using hown) (grownBy_refl _ _)
      unfold Oper.wp
      simp [execOp, ho, resolve, invoke, builtin, hs, hx, hrun, Result.andThen]
      exact hk
    | some ad =>
      refine wp_append_own w s x 43 ho base 3 i0 _ 1 8 Tryd.underlying43 hi hz0 hz1 hz2 rfl (by decide) v _ _ hs hown ad 0 c [] hx rfl (by simp) (by simp) (by unfold maxLen; omega) (by omega) hbase (fun v' w' h1 h2 _ => h v' w' ?_ h2)
      simpa using h1
  · refine wp_append_own w s x 43 ho base 3 i0 _ 1 8 Tryd.underlying43 hi hz0 hz1 hz2 rfl (by decide) v _ _ hs hown ⟨b, o1, none⟩ m.length c (cellsZ m) hx (by rw [cellsZ_length, Nat.mul_one]) hcs.addF (cellsZ_one m) (by unfold maxLen; omega) (by omega) hbase (fun v' w' h1 h2 _ => h v' w' (own_appZ h1 rfl rfl) h2)

end Go.Proofs.YtehjfcefkiglaaaDoor
