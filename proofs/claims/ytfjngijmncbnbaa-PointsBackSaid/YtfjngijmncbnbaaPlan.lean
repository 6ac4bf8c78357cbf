/-
  A region that draws its order, walked by a plan: which operation is taken first (whatever the world, it yields the same; or its guard passes over it), and which may come up alone.
-/
import Derived.Deep.RegionHeld3
import Derived.BigRegion
import Derived.Test.YtfjngijmncbnbaaProg
namespace Go.Proofs.Ytfjngijmncbnbaa
open Go.RowKit

section
variable {P : Program} {ops : Array Oper} {Q : Exit → Act → World → Prop} {S : World → Prop}

/-- The plan fits the region: true: the operation is taken first; false: it alone may come up. -/
def planB (ops : Array Oper) : List (Nat × Bool) → Array Bool → Bool
  | [], listed => (Region.ready .any ops listed).isEmpty
  | (i, true) :: r, listed => (Region.ready .any ops listed).contains i && Region.free .any ops listed i && planB ops r (listed.setIfInBounds i true)
  | (i, false) :: r, listed => decide (Region.ready .any ops listed = [i]) && planB ops r (listed.setIfInBounds i true)
def wpPlan (P : Program) (ops : Array Oper) (Q : Exit → Act → World → Prop) (S : World → Prop) : List (Nat × Bool) → Act → World → Prop
  | [], a, w => Q .normal a w
  | (i, true) :: r, a, w => ∃ o v, ops[i]? = some o ∧ YieldsIf P ops S o v a ∧ S w ∧ wpPlan P ops Q S r (a.put o.dst v) w
  | (i, false) :: r, a, w => wpOp P ops Q i (fun a' w' => S w' ∧ wpPlan P ops Q S r a' w') a w

theorem wpAnyH_of_plan (hs : Region.noSelect ops = true) (hQ : ∀ d v c a w, Q (.panic c) (Act.put a d v) w → Q (.panic c) a w) :
    ∀ (p : List (Nat × Bool)) (listed : Array Bool) (a : Act) (w : World), planB ops p listed = true → wpPlan P ops Q S p a w → wpAnyH P .any ops Q S p.length listed a w
  | [], listed, a, w, hB, h => ⟨by simpa [planB] using hB, h⟩
  | (i, true) :: r, listed, a, w, hB, h => by
    simp only [planB, Bool.and_eq_true] at hB
    obtain ⟨o, v, ho, hy, hS, hr⟩ := h
    exact wpAnyH_take ho hs hB.1.2 hB.1.1 (fun c a w => hQ _ _ c a w) hy hS (wpAnyH_of_plan hs hQ r _ _ _ hB.2 hr)
  | (i, false) :: r, listed, a, w, hB, h => by
    simp only [planB, Bool.and_eq_true, decide_eq_true_eq] at hB
    refine wpAnyH_all hB.1 (by simp) (fun j hj => ?_)
    obtain rfl : j = i := by simpa using hj
    exact wpOp_mono (fun a' w' h' => ⟨h'.1, wpAnyH_of_plan hs hQ r _ _ _ hB.2 h'.2⟩) h

theorem wp_region_plan {id : Nat} {a : Act} {w : World} (p : List (Nat × Bool)) (S : World → Prop) (hm : P.follows .mixedOrders = true) (hn : p.length = ops.size) (hs : Region.noSelect ops = true)
    (hB : planB ops p (Array.replicate ops.size false) = true) (hQ : ∀ d v c a w, Q (.panic c) (Act.put a d v) w → Q (.panic c) a w) (h : wpPlan P ops Q S p a w.drew) : (Code.region id ops true).wp P Q a w :=
  wp_region_held (S := S) hm (by rw [← hn] at hB ⊢; exact wpAnyH_of_plan hs hQ p _ a _ hB h)

/-- The same, of a list of operations. -/
theorem region_plan {l : List Oper} {id : Nat} {a : Act} {w : World} (p : List (Nat × Bool)) (S : World → Prop) (hm : P.follows .mixedOrders = true) (hn : p.length = l.length) (hs : Region.noSelect l.toArray = true)
    (hB : planB l.toArray p (Array.replicate l.toArray.size false) = true) (hQ : ∀ d v c a w, Q (.panic c) (Act.put a d v) w → Q (.panic c) a w) (h : wpPlan P l.toArray Q S p a w.drew) : (Code.region id l.toArray true).wp P Q a w :=
  wp_region_plan p S hm (by simpa using hn) hs hB hQ h

theorem plan_end {a : Act} {w : World} (h : Q .normal a w) : wpPlan P ops Q S [] a w := h
section
variable {l : List Oper}
theorem list_at {i : Nat} {o : Oper} (h : l[i]? = some o) : l.toArray[i]? = some o := by simpa using h
theorem plan_skip {i : Nat} {r : List (Nat × Bool)} {a : Act} {w : World} {o : Oper} (ho : l[i]? = some o) (hw : Region.wanted o (yielded l.toArray a.tmps) = false) (hS : S w)
    (h : wpPlan P l.toArray Q S r (a.put o.dst undef) w) : wpPlan P l.toArray Q S ((i, true) :: r) a w := ⟨o, undef, list_at ho, .inr ⟨hw, rfl⟩, hS, h⟩
theorem plan_take {i : Nat} {r : List (Nat × Bool)} {a : Act} {w : World} {o : Oper} (v : Value) (ho : l[i]? = some o) (hw : Region.wanted o (yielded l.toArray a.tmps) = true)
    (hy : ∀ W, S W → (execOp a.eval o).run P W = .ok (.value v) W) (hS : S w) (h : wpPlan P l.toArray Q S r (a.put o.dst v) w) : wpPlan P l.toArray Q S ((i, true) :: r) a w := ⟨o, v, list_at ho, .inl ⟨hw, hy⟩, hS, h⟩
theorem plan_call {i : Nat} {r : List (Nat × Bool)} {a : Act} {w : World} {o : Oper} {f : FuncId} {args : Array Value} {R : Ending → World → Prop} (ho : l[i]? = some o) (hw : Region.wanted o (yielded l.toArray a.tmps) = true)
    (hr : (execOp a.eval o).run P w = .ok (.enter f args) w) (hc : Calls P f args w R)
    (hR : ∀ e w', R e w' → ∃ u, e = .returned u ∧ S w' ∧ wpPlan P l.toArray Q S r (a.put o.dst u) w') : wpPlan P l.toArray Q S ((i, false) :: r) a w := by
  have ho' := list_at ho
  unfold wpPlan wpOp
  simp only [ho']
  rw [if_pos hw]
  refine .inl ?_
  unfold Oper.wp
  rw [hr]
  refine Calls.mono hc (fun e w' h => ?_)
  obtain ⟨u, rfl, h1, h2⟩ := hR e w' h
  exact ⟨h1, h2⟩
end

variable {ρ : Operand → Value} {o : Oper} {W : World}
theorem ran_move {x : Operand} {v : Value} (h : o.op = .move x) (hx : ρ x = v) : (execOp ρ o).run P W = .ok (.value v) W := hx ▸ BigFrame.run_move x h W
theorem ran_assign {x : Operand} {v : Value} (h : o.op = .assign x) (hx : ρ x = v) : (execOp ρ o).run P W = .ok (.value v) W := hx ▸ BigFrame.run_assign x h W
theorem ran_pick {c x y : Operand} {b : Bool} {v : Value} (h : o.op = .pick c x y) (hc : ρ c = .bool b) (hx : (if b = true then ρ x else ρ y) = v) : (execOp ρ o).run P W = .ok (.value v) W := by
  subst hx
  unfold execOp
  rw [h]
  simp only [hc]
  cases b <;> simp [go_sem]
theorem ran_bin {b : BinOp} {t t2 : TypeId} {x y : Operand} {vx vy v : Value} (h : o.op = .binOp b t x y t2) (hx : ρ x = vx) (hy : ρ y = vy)
    (hg : (eqGuard b t x y vx vy).run P W = .ok () W) (hr : (binOp b t vx vy).run P W = .ok v W) : (execOp ρ o).run P W = .ok (.value v) W := by
  subst hx hy
  unfold execOp
  rw [h]
  simp [go_sem, hg, hr]
theorem ran_load {t : TypeId} {x : Operand} {vx v : Value} (h : o.op = .load t x) (hx : ρ x = vx) (hr : (Instr.loadAt t vx).run P W = .ok v W) : (execOp ρ o).run P W = .ok (.value v) W := by
  subst hx
  unfold execOp
  rw [h]
  simp only [Sem.run_bind, hr, Result.andThen_ok]
  simp [go_sem]
theorem ran_build0 {t : TypeId} {v : Value} (h : o.op = .build t #[]) (hr : (Instr.build t #[]).run P W = .ok v W) : (execOp ρ o).run P W = .ok (.value v) W := by
  unfold execOp
  rw [h]
  simp [go_sem, hr]
theorem ran_call {c : Call} {f : FuncId} {vs : Array Value} (h : o.op = .call c) (hc : c.callee = .value (.func f)) (hv : c.args.map ρ = vs) (hf : ρ (.func f) = .func (.func f) #[] #[]) (he : (callFunc f vs).run P W = .ok (.enter f vs) W) : (execOp ρ o).run P W = .ok (.enter f vs) W := by
  subst hv
  unfold execOp
  rw [h]
  simp [go_sem, resolve, hc, hf]
  exact he
end

end Go.Proofs.Ytfjngijmncbnbaa
