/-
  The chapter's examples.
-/
import Derived.Test.YthoinlapopongaaDoorWalksH
import Derived.Test.YthoinlapopongaaDoorWalksJ
namespace Go.Proofs.YthoinlapopongaaDoor
open Go.RowKit Go.Lib

theorem ex_one : parseS ⟨#[102, 111, 110, 116, 45, 119, 101, 105, 103, 104, 116, 58, 32, 66, 111, 108, 100, 59, 32, 70, 79, 78, 84, 45, 83, 84, 89, 76, 69, 58, 105, 116, 97, 108, 105, 99]⟩ = (3#64, 0#64) := by decide +kernel
theorem ex_two : parseS ⟨#[116, 101, 120, 116, 45, 100, 101, 99, 111, 114, 97, 116, 105, 111, 110, 58, 32, 117, 110, 100, 101, 114, 108, 105, 110, 101]⟩ = (4#64, 8#64) := by decide +kernel
theorem ex_three : printN (low 5) (low 2) = ⟨#[102, 111, 110, 116, 45, 119, 101, 105, 103, 104, 116, 58, 32, 98, 111, 108, 100, 59, 32, 102, 111, 110, 116, 45, 115, 116, 121, 108, 101, 58, 32, 110, 111, 114, 109, 97, 108, 59, 32, 116, 101, 120, 116, 45, 100, 101, 99, 111, 114, 97, 116, 105, 111, 110, 58, 32, 117, 110, 100, 101, 114, 108, 105, 110, 101]⟩ := by decide +kernel
theorem ex_four : overS (BitVec.ofInt 64 3) (BitVec.ofInt 64 4) (BitVec.ofInt 64 1) = 6#64 := by decide

theorem at_one (w : World) (hE : Env w) : Calls Tryd.prog 9 #[.string ⟨#[102, 111, 110, 116, 45, 119, 101, 105, 103, 104, 116, 58, 32, 66, 111, 108, 100, 59, 32, 70, 79, 78, 84, 45, 83, 84, 89, 76, 69, 58, 105, 116, 97, 108, 105, 99]⟩] w fun e w' => e = .returned (.tuple #[.int .i64 3, .int .i64 0]) ∧ Below w.heap.size w w' := by
  have h := parse_any ⟨#[102, 111, 110, 116, 45, 119, 101, 105, 103, 104, 116, 58, 32, 66, 111, 108, 100, 59, 32, 70, 79, 78, 84, 45, 83, 84, 89, 76, 69, 58, 105, 116, 97, 108, 105, 99]⟩ w (by decide) hE
  rw [ex_one] at h
  exact h
theorem at_two (w : World) (hE : Env w) : Calls Tryd.prog 9 #[.string ⟨#[116, 101, 120, 116, 45, 100, 101, 99, 111, 114, 97, 116, 105, 111, 110, 58, 32, 117, 110, 100, 101, 114, 108, 105, 110, 101]⟩] w fun e w' => e = .returned (.tuple #[.int .i64 4, .int .i64 8]) ∧ Below w.heap.size w w' := by
  have h := parse_any ⟨#[116, 101, 120, 116, 45, 100, 101, 99, 111, 114, 97, 116, 105, 111, 110, 58, 32, 117, 110, 100, 101, 114, 108, 105, 110, 101]⟩ w (by decide) hE
  rw [ex_two] at h
  exact h
theorem at_three (w : World) : Calls Tryd.prog 11 #[.int .i64 5, .int .i64 2] w fun e w' => e = .returned (.string ⟨#[102, 111, 110, 116, 45, 119, 101, 105, 103, 104, 116, 58, 32, 98, 111, 108, 100, 59, 32, 102, 111, 110, 116, 45, 115, 116, 121, 108, 101, 58, 32, 110, 111, 114, 109, 97, 108, 59, 32, 116, 101, 120, 116, 45, 100, 101, 99, 111, 114, 97, 116, 105, 111, 110, 58, 32, 117, 110, 100, 101, 114, 108, 105, 110, 101]⟩) ∧ Below w.heap.size w w' := by
  have h := print_any 5 2 w
  rw [ex_three] at h
  exact h
theorem at_four (w : World) : Calls Tryd.prog 13 #[.int .i64 3, .int .i64 4, .int .i64 1] w fun e w' => e = .returned (.int .i64 6) ∧ w = w' := by
  have h := over_any 3 4 1 w
  rw [ex_four] at h
  exact h

set_option maxHeartbeats 4000000 in
theorem awake_any (w : World) (hE : Env w) : Calls Tryd.prog 8 #[] w fun e w' => e = .returned (.bool true) ∧ Below w.heap.size w w' := by
  have c1 := at_one
  have c2 := at_two
  have c3 := at_three
  have c4 := at_four
  have hb := Below.refl w.heap.size w
  go_enter Tryd.func8, Tryd.ntmps8
  go_wp2_with (first
    | (go_at_call 9; ((with_reducible refine (c1 _ (hE.below hb)).mono ?_); rintro e wn ⟨rfl, hbn⟩; replace hb := hb.trans (hbn.mono hb.size)))
    | (go_at_call 9; ((with_reducible refine (c2 _ (hE.below hb)).mono ?_); rintro e wn ⟨rfl, hbn⟩; replace hb := hb.trans (hbn.mono hb.size)))
    | (go_at_call 11; ((with_reducible refine (c3 _).mono ?_); rintro e wn ⟨rfl, hbn⟩; replace hb := hb.trans (hbn.mono hb.size)))
    | (go_at_call 13; ((with_reducible refine (c4 _).mono ?_); rintro e wn ⟨rfl, rfl⟩)))
  go_ret
  exact ⟨rfl, hb⟩

end Go.Proofs.YthoinlapopongaaDoor
