/-
  The walk of the statement CssParses, where the program's declarations say what the document's say.
-/
import Derived.Test.YthoinlapopongaaDoorWalksK
import Derived.Test.YthoinlapopongaaDoorDoc
namespace Go.Proofs.YthoinlapopongaaDoor
open Go.RowKit Go.Lib

set_option maxHeartbeats 4000000 in
theorem lawParses_of (hT : ∀ p v, toldD p v = toldS p v) (s : ByteArray) (w : World) (hE : Env w) (hs : s.size ≤ 140737488355328) : Calls Tryd.prog 3 #[.string s] w fun e w' => e = .returned (.bool true) ∧ Below w.heap.size w w' := by
  have c4 := awake_any
  have hb := Below.refl w.heap.size w
  by_cases h : s.size ≤ 10000
  · have c1 := fun w h => parse_any s w (by omega) h
    have c2 := fun w => rparse_any s w (by omega)
    rw [parse_doc hT] at c2
    clear hT
    generalize (parseS s).1.toInt = A at *
    generalize (parseS s).2.toInt = B at *
    have h1 : ¬ (10000 : Int) < (s.size : Int) := by omega
    go_enter Tryd.func3, Tryd.ntmps3
    go_wp2_with (first
      | (go_at_call 9; ((with_reducible refine (c1 _ (hE.below hb)).mono ?_); rintro e wn ⟨rfl, hbn⟩; replace hb := hb.trans (hbn.mono hb.size)))
      | (go_at_call 10; ((with_reducible refine (c2 _).mono ?_); rintro e wn ⟨rfl, hbn⟩; replace hb := hb.trans (hbn.mono hb.size)))
      | (go_at_call 8; ((with_reducible refine (c4 _ (hE.below hb)).mono ?_); rintro e wn ⟨rfl, hbn⟩; replace hb := hb.trans (hbn.mono hb.size))))
    go_ret
    exact ⟨rfl, hb⟩
  · have h1 : (10000 : Int) < (s.size : Int) := by omega
    clear hT
    go_enter Tryd.func3, Tryd.ntmps3
    go_wp2_with (go_at_call 8; ((with_reducible refine (c4 _ (hE.below hb)).mono ?_); rintro e wn ⟨rfl, hbn⟩; replace hb := hb.trans (hbn.mono hb.size)))
    go_ret
    exact ⟨rfl, hb⟩

theorem lawParses_walk (s : ByteArray) (w : World) (hE : Env w) (hs : s.size ≤ 140737488355328) : Calls Tryd.prog 3 #[.string s] w fun e w' => e = .returned (.bool true) ∧ Below w.heap.size w w' :=
  lawParses_of told_doc s w hE hs

end Go.Proofs.YthoinlapopongaaDoor
