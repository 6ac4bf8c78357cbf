/-
  The program's fit.
-/
import Derived.Test.YtmlipcedkgfmiaaDoorConcat
import Derived.StillTailTactics
import Derived.IntWalk
namespace Go.Proofs.YtmlipcedkgfmiaaDoor
open Go.RowKit Go.Lib

/-- May from and to be? -/
def fitB (n : Nat) (f t : Int) : Bool := decide (0 ≤ f ∧ f ≤ t ∧ t ≤ n)
def RowPost (l : Row) (w : World) (e : Ending) (w' : World) : Prop := ∃ v, e = .returned (.tuple #[v, .int .i64 0]) ∧ w'.ownsRow w.heap.size 44 3 v l.length (cellsR l) ∧ Below w.heap.size w w'
def errV : Value := .tuple #[.slice none 0 0, .int .i64 1]

theorem row_post {w w2 w4 : World} {o : Obj} {v' : Value} {l : Row} (hown : w4.ownsRow (w2.alloc o).heap.size 44 3 v' l.length (cellsR l)) (b1 : Below w.heap.size w w2) (hb4 : Below (w2.alloc o).heap.size (w2.alloc o) w4) :
    RowPost l w (.returned (.tuple #[v', .int .i64 0])) w4 := by
  have h1 := b1.size
  have b2 : Below w.heap.size w (w2.alloc o) := b1.alloc h1 _
  exact ⟨v', rfl, hown.mono b2.size, b2.trans (hb4.mono b2.size)⟩

set_option maxHeartbeats 1000000 in
theorem fit_any (v : Value) (l : Row) (f t : Int) (w : World) (hv : RowAt w v l) :
    Calls Tryd.prog 73 #[v, .int .i64 f, .int .i64 t] w fun e w' => e = .returned (.bool (fitB l.length f t)) ∧ w = w' := by
  obtain ⟨a, c, rfl⟩ := hv.len
  obtain ⟨n, hn⟩ : ∃ n, l.length = n := ⟨_, rfl⟩
  rw [hn]
  clear hv hn
  go_enter Tryd.func73, Tryd.ntmps73
  go_wp2
  all_goals go_ret
  all_goals (refine ⟨ret_bool ?_, rfl⟩; unfold fitB; rw [Bool.eq_iff_iff]; first | (simp_all; done) | (simp_all; omega))

end Go.Proofs.YtmlipcedkgfmiaaDoor
