/-
  append(s, m..) onto a row of one's own, behind a guard, or as a step of a region that draws.
-/
import Derived.Test.YtmlipcedkgfmiaaDoorConcat
import Derived.Deep.RegionLaw
import Derived.Deep.AppendLies
namespace Go.Proofs.YtmlipcedkgfmiaaDoor
open Go.RowKit Go.Lib

/-- append(s, m..) onto a row of one's own, as a step of a region that draws. -/
theorem step_append_rowG {ops : Array Oper} {o : Oper} {a : Act} {K : Act → World → Prop} {Q : Exit → Act → World → Prop} {E : Prop} {w : World} (hw : Region.wanted o (yielded ops a.tmps) = true) (s x : Operand)
    (ho : o.op = .call { callee := .builtin .append, args := #[s, x], argTypes := #[23, 23] })
    (base : Nat) (v : Value) (l : Row) (hs : a.eval s = v) (hown : w.ownsRow base 44 3 v l.length (cellsR l)) (u : Value) (m : Row) (hx : a.eval x = u) (hu : RowAt w u m)
    (hb : l.length + m.length ≤ 1000000) (hbase : base ≤ w.heap.size)
    (h : ∀ v' w', w'.ownsRow base 44 3 v' (l ++ m).length (cellsR (l ++ m)) → w.grownBy w' v.ownBlock → K (a.put o.dst v') w') :
    if Region.wanted o (yielded ops a.tmps) = true then Oper.wp Tryd.prog o a w K Q else E := by
  rw [if_pos hw]
  obtain ⟨i0, hi, hz0, hz1, hz2⟩ := info_parts infoCell
  rcases hu with ⟨ad, c, rfl, hac, _, rfl⟩ | ⟨b, o1, c, rfl, hlc, hcm, hbb, hcs⟩
  · cases ad with
    | none =>
      obtain rfl := hac rfl
      have hrun := run_append_owned_none (P := Tryd.prog) (w := w) base 23 o.type 44 i0 3 Tryd.underlying23 hi v _ _ hown
      have hk := h v w (by simpa using hown) (grownBy_refl _ _)
      unfold Oper.wp
      simp [execOp, ho, resolve, invoke, builtin, hs, hx, hrun, Result.andThen]
      exact hk
    | some ad =>
      refine wp_append_own w s x 23 ho base 44 i0 _ 3 32 Tryd.underlying23 hi hz0 hz1 hz2 rfl (by decide) v _ _ hs hown ad 0 c [] hx rfl (by simp) (by simp) (by unfold maxLen; omega) (by omega) hbase (fun v' w' h1 h2 _ => h v' w' ?_ h2)
      simpa using h1
  · refine wp_append_own w s x 23 ho base 44 i0 _ 3 32 Tryd.underlying23 hi hz0 hz1 hz2 rfl (by decide) v _ _ hs hown ⟨b, o1, none⟩ m.length c (cellsR m) hx (cellsR_length m) hcs.addF (cellsR_one m) (by unfold maxLen; omega) (by omega) hbase (fun v' w' h1 h2 _ => h v' w' (own_app h1 rfl rfl) h2)
theorem step_append_row {ops : Array Oper} {o : Oper} {a : Act} {K : Act → World → Prop} {Q : Exit → Act → World → Prop} {E : Prop} {w : World} (hgd : o.guard = none) (s x : Operand)
    (ho : o.op = .call { callee := .builtin .append, args := #[s, x], argTypes := #[23, 23] })
    (base : Nat) (v : Value) (l : Row) (hs : a.eval s = v) (hown : w.ownsRow base 44 3 v l.length (cellsR l)) (u : Value) (m : Row) (hx : a.eval x = u) (hu : RowAt w u m)
    (hb : l.length + m.length ≤ 1000000) (hbase : base ≤ w.heap.size)
    (h : ∀ v' w', w'.ownsRow base 44 3 v' (l ++ m).length (cellsR (l ++ m)) → w.grownBy w' v.ownBlock → K (a.put o.dst v') w') :
    if Region.wanted o (yielded ops a.tmps) = true then Oper.wp Tryd.prog o a w K Q else E :=
  step_append_rowG (by simp [Region.wanted, hgd]) s x ho base v l hs hown u m hx hu hb hbase h
/-- The same, behind a guard that holds. -/
theorem wpList_append_rowG {ops : Array Oper} {rest : List Oper} {o : Oper} {a : Act} {Q : Exit → Act → World → Prop} {w : World} (hw : Region.wanted o (yielded ops a.tmps) = true) (s x : Operand)
    (ho : o.op = .call { callee := .builtin .append, args := #[s, x], argTypes := #[23, 23] })
    (base : Nat) (v : Value) (l : Row) (hs : a.eval s = v) (hown : w.ownsRow base 44 3 v l.length (cellsR l)) (u : Value) (m : Row) (hx : a.eval x = u) (hu : RowAt w u m)
    (hb : l.length + m.length ≤ 1000000) (hbase : base ≤ w.heap.size)
    (h : ∀ v' w', w'.ownsRow base 44 3 v' (l ++ m).length (cellsR (l ++ m)) → w.grownBy w' v.ownBlock → wpList Tryd.prog ops Q rest (a.put o.dst v') w') : wpList Tryd.prog ops Q (o :: rest) a w :=
  wpList_step fun _ hK => step_append_rowG hw s x ho base v l hs hown u m hx hu hb hbase fun v' w' h1 h2 => hK _ _ (h v' w' h1 h2)

end Go.Proofs.YtmlipcedkgfmiaaDoor
