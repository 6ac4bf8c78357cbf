/-
  Single operations of the law of there and back.
-/
import Derived.Test.YtfjngijmncbnbaaPlan
import Derived.Test.YtfjngijmncbnbaaAw
namespace Go.Proofs.Ytfjngijmncbnbaa
open Go.RowKit Go.Lib
section
variable {P : Program} {ρ : Operand → Value} {o : Oper} {W : World}
theorem ran_field {t : TypeId} {x : Operand} {i : Nat} {vx v : Value} (h : o.op = .fieldAddr t x i) (hx : ρ x = vx) (hr : (Instr.fieldAt t vx i).run P W = .ok v W) : (execOp ρ o).run P W = .ok (.value v) W := by
  subst hx
  unfold execOp
  rw [h]
  simp only [Sem.run_bind, hr, Result.andThen_ok]
  simp [go_sem]
end
theorem g_gtr (x y : Operand) (vx vy : Value) (W : World) : (eqGuard .gtr 3 x y vx vy).run Try.prog W = .ok () W := by simp [eqGuard, go_sem]
theorem g_lss (x y : Operand) (vx vy : Value) (W : World) : (eqGuard .lss 3 x y vx vy).run Try.prog W = .ok () W := by simp [eqGuard, go_sem]
theorem g_add (x y : Operand) (vx vy : Value) (W : World) : (eqGuard .add 3 x y vx vy).run Try.prog W = .ok () W := by simp [eqGuard, go_sem]
theorem g_eqi (x y : Operand) (a b : Int) (W : World) : (eqGuard .eql 3 x y (.int .i64 a) (.int .i64 b)).run Try.prog W = .ok () W := by
  have hm : Try.prog.eqGuardType Try.prog.depth 3 = false := by kernel_rfl
  simp [eqGuard, go_sem, hm]
theorem g_neb (x y : Operand) (a b : Bool) (W : World) : (eqGuard .neq 4 x y (.bool a) (.bool b)).run Try.prog W = .ok () W := by
  have hm : Try.prog.eqGuardType Try.prog.depth 4 = false := by kernel_rfl
  simp [eqGuard, go_sem, hm]
theorem g_nep (x y : Operand) (a b : Array Value) (W : World) : (eqGuard .neq 23 x y (.agg a) (.agg b)).run Try.prog W = .ok () W := by
  have hm : Try.prog.eqGuardType Try.prog.depth 23 = false := by kernel_rfl
  simp [eqGuard, go_sem, hm]
theorem b_gtr {a b : Int} {r : Bool} (h : decide (b < a) = r) (W : World) : (binOp .gtr 3 (.int .i64 a) (.int .i64 b)).run Try.prog W = .ok (.bool r) W := by subst h; simp [go_sem]
theorem b_lss {a b : Int} {r : Bool} (h : decide (a < b) = r) (W : World) : (binOp .lss 3 (.int .i64 a) (.int .i64 b)).run Try.prog W = .ok (.bool r) W := by subst h; simp [go_sem]
theorem b_eqi {a b : Int} {r : Bool} (h : (a == b) = r) (W : World) : (binOp .eql 3 (.int .i64 a) (.int .i64 b)).run Try.prog W = .ok (.bool r) W := by subst h; simp [go_sem]
theorem b_add {a b : Int} (h : IntKind.i64.wrap (a + b) = a + b) (W : World) : (binOp .add 3 (.int .i64 a) (.int .i64 b)).run Try.prog W = .ok (.int .i64 (a + b)) W := by simp [go_sem, h]
theorem b_neb (a b : Bool) (W : World) : (binOp .neq 4 (.bool a) (.bool b)).run Try.prog W = .ok (.bool (a != b)) W := by cases a <;> cases b <;> simp [go_sem]
theorem b_nep (a b : Int) (W : World) : (binOp .neq 23 (.agg #[.int .i64 a, .int .i64 b]) (.agg #[.int .i64 a, .int .i64 b])).run Try.prog W = .ok (.bool false) W := by rw [nePlace]; simp
theorem l_pl {W : World} {b : Nat} {p q : Int} (h1 : W.cell? ⟨b, 0, none⟩ = some (.int .i64 p)) (h2 : W.cell? ⟨b, 1, none⟩ = some (.int .i64 q)) :
    (Instr.loadAt 23 (.pointer (some ⟨b, 0, none⟩))).run Try.prog W = .ok (.agg #[.int .i64 p, .int .i64 q]) W := by go_simp
theorem l_int {W : World} {b i : Nat} {p : Int} (h1 : W.cell? ⟨b, i, none⟩ = some (.int .i64 p)) :
    (Instr.loadAt 3 (.pointer (some ⟨b, i, none⟩))).run Try.prog W = .ok (.int .i64 p) W := by go_simp
theorem f_pl0 (b : Nat) (W : World) : (Instr.fieldAt 23 (.pointer (some ⟨b, 0, none⟩)) 0).run Try.prog W = .ok (.pointer (some ⟨b, 0, none⟩)) W := by go_simp
theorem f_pl1 (b : Nat) (W : World) : (Instr.fieldAt 23 (.pointer (some ⟨b, 0, none⟩)) 1).run Try.prog W = .ok (.pointer (some ⟨b, 1, none⟩)) W := by go_simp
theorem enters_unw (v : Value) (a b c d : Int) (W : World) : (callFunc 11 #[v, .int .i64 a, .int .i64 b, .int .i64 c, .int .i64 d]).run Try.prog W = .ok (.enter 11 #[v, .int .i64 a, .int .i64 b, .int .i64 c, .int .i64 d]) W := by go_simp
theorem enters_jot (v : Value) (a b c d e : Int) (W : World) : (callFunc 13 #[v, .int .i64 a, .int .i64 b, .int .i64 c, .int .i64 d, .int .i64 e]).run Try.prog W = .ok (.enter 13 #[v, .int .i64 a, .int .i64 b, .int .i64 c, .int .i64 d, .int .i64 e]) W := by go_simp
end Go.Proofs.Ytfjngijmncbnbaa
