/-
  The walk of the statement of layer 2 on what stands in what.
-/
import Derived.Test.YteiaolejoangnaaDoorLawsA
namespace Go.Proofs.YteiaolejoangnaaDoor
open Go.RowKit

set_option maxHeartbeats 2000000 in
theorem lawContent_no (p k : Int) (w : World) (hT : OwnT w) (h : may p k = false) :
    Calls Tryd.prog 8 #[.int .i64 p, .int .i64 k] w fun e w' => e = .returned (.bool true) ∧ Below w.heap.size w w' := by
  have H := Lib.hid h
  clear h
  go_enter Tryd.func8, Tryd.ntmps8
  go_wp2_with (first
    | (go_at_call 13; (with_reducible refine (class_any _ _).mono ?_); rintro e w1 ⟨rfl, rfl⟩)
    | (go_at_call 20; (with_reducible refine (may_at p k false _ H.out).mono ?_); rintro e w1 ⟨rfl, rfl⟩)
    | (go_at_call 20; (with_reducible refine (may_any 2 k _).mono ?_); rintro e w1 ⟨rfl, rfl⟩)
    | (go_at_call 20; (with_reducible refine (may_at 9 k (may 2 k) _ (may_9 k)).mono ?_); rintro e w1 ⟨rfl, rfl⟩)
    | (go_at_call 20; (with_reducible refine (may_any 1 k _).mono ?_); rintro e w1 ⟨rfl, rfl⟩)
    | (go_at_call 20; (with_reducible refine (may_at 6 k (may 1 k) _ (may_6 k)).mono ?_); rintro e w1 ⟨rfl, rfl⟩)
    | (go_at_call 20; (with_reducible refine (may_any 7 k _).mono ?_); rintro e w1 ⟨rfl, rfl⟩)
    | (go_at_call 20; (with_reducible refine (may_at 8 k (may 7 k) _ (may_8 k)).mono ?_); rintro e w1 ⟨rfl, rfl⟩)
    | (go_at_call 17; (with_reducible refine (awake_any _ hT).mono ?_); rintro e w1 ⟨rfl, hb⟩))
  go_ret
  exact ⟨rfl, hb⟩

set_option maxHeartbeats 2000000 in
theorem lawContent_yes (p k c d : Int) (w : World) (hT : OwnT w) (h : may p k = true) (h1 : (k == 1) = false) (hc : cls p = c) (hd : cls k = d)
    (hcd : c = 2 ∧ (d = 2 ∨ d = 3) ∨ (c = 3 ∨ c = 4) ∧ (d = 1 ∨ d = 4 ∨ d = 5)) :
    Calls Tryd.prog 8 #[.int .i64 p, .int .i64 k] w fun e w' => e = .returned (.bool true) ∧ Below w.heap.size w w' := by
  have H := Lib.hid h
  have HC := Lib.hid hc
  have HD := Lib.hid hd
  clear h hc hd
  rcases hcd with ⟨rfl, rfl | rfl⟩ | ⟨rfl | rfl, rfl | rfl | rfl⟩
  all_goals
    go_enter Tryd.func8, Tryd.ntmps8
    go_wp2_with (first
      | (go_at_call 13; (with_reducible refine (class_at p _ _ HC.out).mono ?_); rintro e w1 ⟨rfl, rfl⟩)
      | (go_at_call 13; (with_reducible refine (class_at k _ _ HD.out).mono ?_); rintro e w1 ⟨rfl, rfl⟩)
      | (go_at_call 20; (with_reducible refine (may_at p k true _ H.out).mono ?_); rintro e w1 ⟨rfl, rfl⟩)
      | (go_at_call 20; (with_reducible refine (may_any 2 k _).mono ?_); rintro e w1 ⟨rfl, rfl⟩)
      | (go_at_call 20; (with_reducible refine (may_at 9 k (may 2 k) _ (may_9 k)).mono ?_); rintro e w1 ⟨rfl, rfl⟩)
      | (go_at_call 20; (with_reducible refine (may_any 1 k _).mono ?_); rintro e w1 ⟨rfl, rfl⟩)
      | (go_at_call 20; (with_reducible refine (may_at 6 k (may 1 k) _ (may_6 k)).mono ?_); rintro e w1 ⟨rfl, rfl⟩)
      | (go_at_call 20; (with_reducible refine (may_any 7 k _).mono ?_); rintro e w1 ⟨rfl, rfl⟩)
      | (go_at_call 20; (with_reducible refine (may_at 8 k (may 7 k) _ (may_8 k)).mono ?_); rintro e w1 ⟨rfl, rfl⟩)
      | (go_at_call 17; (with_reducible refine (awake_any _ hT).mono ?_); rintro e w1 ⟨rfl, hb⟩))
    go_ret
    exact ⟨rfl, hb⟩

theorem lawContent_walk (p k : Int) (w : World) (hT : OwnT w) :
    Calls Tryd.prog 8 #[.int .i64 p, .int .i64 k] w fun e w' => e = .returned (.bool true) ∧ Below w.heap.size w w' := by
  by_cases h : may p k = true
  · obtain ⟨h2, h1⟩ := content h
    exact lawContent_yes p k (cls p) (cls k) w hT h h1 rfl rfl h2
  · exact lawContent_no p k w hT (by simpa using h)

end Go.Proofs.YteiaolejoangnaaDoor
