/-
  The document's Own.
-/
import Derived.Test.YtmlipcedkgfmiaaDoorConcat
namespace Go.Proofs.YtmlipcedkgfmiaaDoor
open Go.RowKit Go.Lib

set_option maxHeartbeats 4000000 in
theorem rown_any (v : Value) (l : Row) (w : World) (hv : RowAt w v l) (hl : l.length ≤ 100000) :
    Calls Tryd.prog 36 #[v] w (OwnPost l w) := by
  have V := Lib.hid hv
  have ba : ∀ o, Below w.heap.size w (w.alloc o) := fun o => (Below.refl _ w).alloc (Nat.le_refl _) _
  clear hv
  go_enter Tryd.func36, Tryd.ntmps36
  go_wp2_with (at_builtin; refine wpList_append_row rfl _ _ rfl w.heap.size _ [] rfl (World.ownsRow_made w #[] 0 (Nat.le_refl _) (Nat.zero_le _) (by simp)) _ l rfl (V.out.below (ba _)) (by simp; omega) (by simp) ?_; intro v3 w3 own3 grow3)
  go_ret
  exact ⟨v3, rfl, own3, (ba _).grown grow3 (by simp) (fun k e => by cases e; exact Nat.le_refl _)⟩

end Go.Proofs.YtmlipcedkgfmiaaDoor
