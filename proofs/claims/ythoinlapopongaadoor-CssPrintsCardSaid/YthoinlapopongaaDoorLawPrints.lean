/-
  The walk of the statement CssPrints.
-/
import Derived.Test.YthoinlapopongaaDoorWalksK
namespace Go.Proofs.YthoinlapopongaaDoor
open Go.RowKit Go.Lib

theorem over_bits (z x y : Int) (w : World) : Calls Tryd.prog 13 #[.int .i64 z, .int .i64 x, .int .i64 y] w fun e w' => e = .returned (.int .i64 (bits .or .i64 (bits .andNot .i64 z y) x)) ∧ w = w' := by
  refine (over_any z x y w).mono ?_
  rintro e w' ⟨rfl, rfl⟩
  refine ⟨ret_int ?_, rfl⟩
  rw [bits_or, bits_andNot, ofInt_bits]
  rfl

set_option maxHeartbeats 4000000 in
theorem lawPrints_walk (x y z : Int) (w : World) (hE : Env w) : Calls Tryd.prog 4 #[.int .i64 x, .int .i64 y, .int .i64 z] w fun e w' => e = .returned (.bool true) ∧ Below w.heap.size w w' := by
  have c1 := print_any x y
  have c2 := rprint_any x y
  have c3 := over_bits z x y
  have c4 := awake_any
  obtain ⟨P, hP⟩ : ∃ P, printN (low x) (low y) = P := ⟨_, rfl⟩
  simp only [hP] at c1 c2
  clear hP
  have hb := Below.refl w.heap.size w
  go_enter Tryd.func4, Tryd.ntmps4
  go_wp2_with (first
    | (go_at_call 11; ((with_reducible refine (c1 _).mono ?_); rintro e wn ⟨rfl, hbn⟩; replace hb := hb.trans (hbn.mono hb.size)))
    | (go_at_call 12; ((with_reducible refine (c2 _).mono ?_); rintro e wn ⟨rfl, rfl⟩))
    | (go_at_call 13; ((with_reducible refine (c3 _).mono ?_); rintro e wn ⟨rfl, rfl⟩))
    | (go_at_call 8; ((with_reducible refine (c4 _ (hE.below hb)).mono ?_); rintro e wn ⟨rfl, hbn⟩; replace hb := hb.trans (hbn.mono hb.size))))
  go_ret
  exact ⟨rfl, hb⟩

end Go.Proofs.YthoinlapopongaaDoor
