/-
  The law DomNobody, walked.
-/
import Derived.Test.YtiodjmamghfedaaDoorAw
import Derived.Test.YtiodjmamghfedaaDoorNil
import Derived.BigGuardPart
namespace Go.Proofs.YtiodjmamghfedaaDoor
open Go.RowKit Go.Lib

set_option maxRecDepth 20000 in
theorem same_attrs0 (w : World) : Calls Tryd.prog 51 #[.slice none 0 0, .slice none 0 0] w fun e w' => e = .returned (.bool true) ∧ w = w' := by
  go_enter Tryd.func51, Tryd.ntmps51
  go_wp2
  go_loop [5] (fun i => i = .int .i64 0) (fun _ => 0)
  case atStart => exact rfl
  case round =>
    obtain rfl := hrel
    go_wp2
    go_ret
    exact ⟨rfl, rfl⟩
set_option maxRecDepth 20000 in
set_option maxHeartbeats 4000000 in
theorem same_node0 (w : World) : Calls Tryd.prog 26 #[.agg #[.int .i64 0, .slice none 0 0, .string ⟨#[]⟩, .slice none 0 0], .agg #[.int .i64 0, .slice none 0 0, .string ⟨#[]⟩, .slice none 0 0]] w fun e w' => e = .returned (.bool true) ∧ Below w.heap.size w w' := by
  have cA := same_attrs0
  have HB := Lib.hid (((Below.refl w.heap.size w).alloc (Nat.le_refl _) (.cells #[.int .i64 0, .slice none 0 0, .string ⟨#[]⟩, .slice none 0 0] 31)).alloc (by simp) (.cells #[.int .i64 0, .slice none 0 0, .string ⟨#[]⟩, .slice none 0 0] 31))
  go_enter Tryd.func26, Tryd.ntmps26
  go_wp2_with (go_at_call 51; ((with_reducible refine (cA _).mono ?_); rintro e w1 ⟨rfl, rfl⟩))
  go_loop [5] (fun i => i = .int .i64 0) (fun _ => 0)
  case atStart => exact rfl
  case round =>
    obtain rfl := hrel
    go_wp2
    go_ret
    exact ⟨rfl, HB.out⟩

set_option maxRecDepth 20000 in
set_option maxHeartbeats 8000000 in
theorem lawNob_walk (w : World) (hT : OwnT w) : Calls Tryd.prog 3 #[] w fun e w' => e = .returned (.bool true) ∧ Below w.heap.size w w' := by
  have c1 := fun w => nil_elem w 1 (.slice none 0 0)
  have c2 := fun w => nil_text w ⟨#[]⟩
  have c3 := fun w => nil_graft w 0 0 0 (.slice none 0 0) ⟨#[]⟩ (.slice none 0 0)
  have c4 := fun w => nil_room w
  have c5 := fun w => nil_insert w 0 0 0
  have c6 := fun w => nil_remove w 0
  have c7 := fun w => nil_drop w 0
  have c8 := fun w => nil_setattrs w 0 (.slice none 0 0)
  have c9 := fun w => nil_settext w 0 ⟨#[]⟩
  have c10 := fun w => nil_settag w 0 1
  have c11 := fun w => nil_has w 0
  have c12 := fun w => nil_tag w 0
  have c13 := fun w => nil_attrs w 0
  have c14 := fun w => nil_told w 0
  have c15 := fun w => nil_kids w 0
  have c16 := fun w => nil_parent w 0
  have c17 := fun w => nil_index w 0
  have c18 := fun w => nil_depth w 0
  have c19 := fun w => nil_height w 0
  have c20 := fun w => nil_live w 0
  have c21 := fun w => nil_count w
  have c22 := fun w => nil_copy w
  have c23 := fun w => nil_plain w 0
  have c24 := same_node0
  have cW := fun (w1 : World) (hb : Below w.heap.size w w1) => awake_any w1 (hT.below hb)
  have hb := Below.refl w.heap.size w
  clear hT
  go_enter Tryd.func3, Tryd.ntmps3
  go_wp2_with (first
    | (go_at_call 4; ((with_reducible refine (c1 _).mono ?_); rintro e w1 ⟨rfl, rfl⟩))
    | (go_at_call 5; ((with_reducible refine (c2 _).mono ?_); rintro e w1 ⟨rfl, rfl⟩))
    | (go_at_call 6; ((with_reducible refine (c3 _).mono ?_); rintro e w1 ⟨rfl, hg⟩; replace hb := hb.trans (hg.mono hb.size); clear hg))
    | (go_at_call 7; ((with_reducible refine (c4 _).mono ?_); rintro e w1 ⟨rfl, rfl⟩))
    | (go_at_call 8; ((with_reducible refine (c5 _).mono ?_); rintro e w1 ⟨rfl, hg⟩; replace hb := hb.trans (hg.mono hb.size); clear hg))
    | (go_at_call 9; ((with_reducible refine (c6 _).mono ?_); rintro e w1 ⟨rfl, hg⟩; replace hb := hb.trans (hg.mono hb.size); clear hg))
    | (go_at_call 10; ((with_reducible refine (c7 _).mono ?_); rintro e w1 ⟨rfl, hg⟩; replace hb := hb.trans (hg.mono hb.size); clear hg))
    | (go_at_call 11; ((with_reducible refine (c8 _).mono ?_); rintro e w1 ⟨rfl, hg⟩; replace hb := hb.trans (hg.mono hb.size); clear hg))
    | (go_at_call 12; ((with_reducible refine (c9 _).mono ?_); rintro e w1 ⟨rfl, hg⟩; replace hb := hb.trans (hg.mono hb.size); clear hg))
    | (go_at_call 13; ((with_reducible refine (c10 _).mono ?_); rintro e w1 ⟨rfl, hg⟩; replace hb := hb.trans (hg.mono hb.size); clear hg))
    | (go_at_call 14; ((with_reducible refine (c11 _).mono ?_); rintro e w1 ⟨rfl, rfl⟩))
    | (go_at_call 15; ((with_reducible refine (c12 _).mono ?_); rintro e w1 ⟨rfl, rfl⟩))
    | (go_at_call 16; ((with_reducible refine (c13 _).mono ?_); rintro e w1 ⟨rfl, rfl⟩))
    | (go_at_call 17; ((with_reducible refine (c14 _).mono ?_); rintro e w1 ⟨rfl, rfl⟩))
    | (go_at_call 18; ((with_reducible refine (c15 _).mono ?_); rintro e w1 ⟨rfl, rfl⟩))
    | (go_at_call 19; ((with_reducible refine (c16 _).mono ?_); rintro e w1 ⟨rfl, rfl⟩))
    | (go_at_call 20; ((with_reducible refine (c17 _).mono ?_); rintro e w1 ⟨rfl, rfl⟩))
    | (go_at_call 21; ((with_reducible refine (c18 _).mono ?_); rintro e w1 ⟨rfl, rfl⟩))
    | (go_at_call 22; ((with_reducible refine (c19 _).mono ?_); rintro e w1 ⟨rfl, rfl⟩))
    | (go_at_call 23; ((with_reducible refine (c20 _).mono ?_); rintro e w1 ⟨rfl, rfl⟩))
    | (go_at_call 24; ((with_reducible refine (c21 _).mono ?_); rintro e w1 ⟨rfl, rfl⟩))
    | (go_at_call 25; ((with_reducible refine (c22 _).mono ?_); rintro e w1 ⟨rfl, rfl⟩))
    | (go_at_call 27; ((with_reducible refine (c23 _).mono ?_); rintro e w1 ⟨rfl, hg⟩; replace hb := hb.trans (hg.mono hb.size); clear hg))
    | (go_at_call 26; ((with_reducible refine (c24 _).mono ?_); rintro e w1 ⟨rfl, hg⟩; replace hb := hb.trans (hg.mono hb.size); clear hg))
    | (go_at_call 28; ((with_reducible refine (cW _ hb).mono ?_); rintro e w1 ⟨rfl, hg⟩; replace hb := hb.trans (hg.mono hb.size); clear hg)))
  go_ret
  exact ⟨rfl, hb⟩

end Go.Proofs.YtiodjmamghfedaaDoor
