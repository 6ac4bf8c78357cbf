/-
  The document's Span; an answer written over.
-/
import Derived.Test.YtafincmcmgedbaaGreatDoorCFit
import Derived.Test.YtafincmcmgedbaaGreatDoorCConcat

namespace Go.Proofs.YtafincmcmgedbaaGreatDoor
open Go.RowKit Go.Lib

set_option maxHeartbeats 1000000 in
theorem rspan_any (v : Value) (l : Row) (f t : Int) (w : World) (hv : RowAt w v l) :
    Calls Tryz.prog 95 #[v, .int .i64 f, .int .i64 t] w fun e w' => e = .returned (.bool (fitB l.length f t)) ∧ w = w' := by
  obtain ⟨a, c, rfl⟩ := hv.len
  obtain ⟨n, hn⟩ : ∃ n, l.length = n := ⟨_, rfl⟩
  rw [hn]
  clear hv hn
  go_enter Tryz.func95, Tryz.ntmps95
  go_wp2
  all_goals go_ret
  all_goals (refine ⟨ret_bool ?_, rfl⟩; unfold fitB; rw [Bool.eq_iff_iff]; first | (simp_all; done) | (simp_all; omega))

/-! ### an answer written over -/
theorem cellsR_put {xs : List Value} {k : Nat} : (((xs.set (k * 3) (.int .i32 122)).set (k * 3 + 1) (.int .i64 77)).set (k * 3 + 2) (.string ⟨#[]⟩)).length = xs.length := by simp

end Go.Proofs.YtafincmcmgedbaaGreatDoor
