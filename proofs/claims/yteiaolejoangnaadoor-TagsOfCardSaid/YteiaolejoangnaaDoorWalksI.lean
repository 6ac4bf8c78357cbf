/-
  The contract of what each statement of layer 2 asks besides: the chapter's examples.
-/
import Derived.Test.YteiaolejoangnaaDoorWalksG
import Derived.Test.YteiaolejoangnaaDoorWalksH
namespace Go.Proofs.YteiaolejoangnaaDoor
open Go.RowKit

theorem find_at (s : ByteArray) (t : Int) (b : Bool) (w : World) (hT : OwnT w) (hs : s.size ≤ maxLen) (h1 : fndT (lowL s.data.toList) = t) (h2 : fndB (lowL s.data.toList) = b) :
    Calls Tryd.prog 18 #[.string s] w fun e w' => e = .returned (.tuple #[.int .i64 t, .bool b]) ∧ Below w.heap.size w w' := by
  subst h1 h2; exact find_any s w hT hs
theorem rfind_at (s : ByteArray) (t : Int) (b : Bool) (w : World) (hs : s.size ≤ maxLen) (h1 : fndT (lowL s.data.toList) = t) (h2 : fndB (lowL s.data.toList) = b) :
    Calls Tryd.prog 19 #[.string s] w fun e w' => e = .returned (.tuple #[.int .i64 t, .bool b]) ∧ Below w.heap.size w w' := by
  subst h1 h2; exact rfind_any s w hs
theorem may_at (p k : Int) (x : Bool) (w : World) (h : may p k = x) :
    Calls Tryd.prog 20 #[.int .i64 p, .int .i64 k] w fun e w' => e = .returned (.bool x) ∧ w = w' := by
  subst h; exact may_any p k w
theorem class_at (t c : Int) (w : World) (h : cls t = c) :
    Calls Tryd.prog 13 #[.int .i64 t] w fun e w' => e = .returned (.int .i64 c) ∧ w = w' := by
  subst h; exact class_any t w
theorem name_at (t : Int) (x : ByteArray) (w : World) (hT : OwnT w) (h : nameOf t = x) :
    Calls Tryd.prog 11 #[.int .i64 t] w fun e w' => e = .returned (.string x) ∧ w = w' := by
  subst h; exact name_any t w hT
theorem line_at (k t : Int) (b : Bool) (w : World) (h1 : lnT k = t) (h2 : lnB k = b) :
    Calls Tryd.prog 9 #[.int .i64 k] w fun e w' => e = .returned (.tuple #[.int .i64 t, .bool b]) ∧ w = w' := by
  subst h1 h2; exact line_any k w

theorem OwnT.in {w w1 : World} (h : OwnT w) (hb : Below w.heap.size w w1) : OwnT w1 := h.below hb

set_option maxHeartbeats 1000000 in
theorem awake_any (w : World) (hT : OwnT w) :
    Calls Tryd.prog 17 #[] w fun e w' => e = .returned (.bool true) ∧ Below w.heap.size w w' := by
  go_enter Tryd.func17, Tryd.ntmps17
  go_wp2_with (first
    | (go_at_call 18; (with_reducible refine (find_at ⟨#[83, 84, 82, 79, 78, 71]⟩ 11 true w hT (by decide) (by decide) (by decide)).mono ?_); rintro e w1 ⟨rfl, hb1⟩; have hT1 := hT.in hb1)
    | (go_at_call 18; (with_reducible refine (find_at ⟨#[120]⟩ 0 false w1 hT1 (by decide) (by decide) (by decide)).mono ?_); rintro e w2 ⟨rfl, hb2⟩; have hT2 := hT1.in hb2; have hb := hb1.trans (hb2.mono hb1.size))
    | (go_at_call 9; (with_reducible refine (line_at 2 4 true _ (by decide) (by decide)).mono ?_); rintro e w3 ⟨rfl, rfl⟩)
    | (go_at_call 11; (with_reducible refine (name_at 6 ⟨#[98, 108, 111, 99, 107, 113, 117, 111, 116, 101]⟩ _ hT2 (by decide)).mono ?_); rintro e w3 ⟨rfl, rfl⟩)
    | (go_at_call 20; (with_reducible refine (may_at 7 9 true _ (by decide)).mono ?_); rintro e w3 ⟨rfl, rfl⟩)
    | (go_at_call 20; (with_reducible refine (may_at 2 7 false _ (by decide)).mono ?_); rintro e w3 ⟨rfl, rfl⟩)
    | (go_at_call 20; (with_reducible refine (may_at 10 10 false _ (by decide)).mono ?_); rintro e w3 ⟨rfl, rfl⟩))
  go_ret
  exact ⟨rfl, hb⟩

end Go.Proofs.YteiaolejoangnaaDoor
