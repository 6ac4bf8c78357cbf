/-
  The law DomSound.
-/
import Derived.Test.YtdegkcibadjogaaDoorSound
import Derived.Test.YtdegkcibadjogaaDoorAw
namespace Go.Proofs.YtdegkcibadjogaaDoor
open Go.RowKit Go.Lib

set_option maxRecDepth 20000 in
set_option maxHeartbeats 8000000 in
theorem domSound_any (w : World) (hT : OwnT w) (c d : Int) (v : Value) (l : List Cl) (hv : ClsAt w v l) :
    Calls Tryd.prog 4 #[.int .i64 c, .int .i64 d, v] w fun e w' => e = .returned (.bool true) ∧ Below w.heap.size w w' := by
  have cH := heavy_any w v l hv
  have cA := fun (W : World) (hb : Below w.heap.size w W) => awake_any W (hT.below hb)
  cases hh : heavyP l with
  | true =>
    rw [hh] at cH
    obtain ⟨a0, c0, rfl⟩ := hv.len
    clear hh hv hT
    go_enter Tryd.func4, Tryd.ntmps4
    go_wp2_with (first
      | (go_at_call 8; ((with_reducible refine (cH).mono ?_); rintro e w1 ⟨rfl, hb⟩))
      | (go_at_call 9; ((with_reducible refine (cA _ hb).mono ?_); rintro e w2 ⟨rfl, hb2⟩)))
    go_ret
    exact ⟨rfl, hb.trans (hb2.mono hb.size)⟩
  | false =>
    rw [hh] at cH
    have cP := fun (W : World) (hb : Below w.heap.size w W) => played_any W (hT.below hb) c d v l (hv.below hb) hh
    have cS : ∀ (W1 W : World) (p : Nat), 0 ≤ d ∧ d ≤ 40 ∧ 1 ≤ c ∧ c ≤ 2000 ∧ StP W1.heap.size W1 d c.toNat p W → Calls Tryd.prog 19 #[.pointer (some ⟨p, 0, none⟩)] W fun e w' => e = .returned (.bool true) ∧ Below W.heap.size W w' ∧ Below W1.heap.size W1 W := fun W1 W p ⟨_, h2, _, _, h5, nb, l2, h6, h7, _⟩ => (sound_any W1.heap.size W p nb d l2 h6 h7 h2).mono (fun _ _ h => ⟨h.1, h.2, h5⟩)
    obtain ⟨a0, c0, rfl⟩ := hv.len
    clear hh hv hT
    go_enter Tryd.func4, Tryd.ntmps4
    go_upto_region 4 with (first
      | (go_at_call 8; ((with_reducible refine (cH).mono ?_); rintro e w1 ⟨rfl, hb⟩))
      | (go_at_call 18; ((with_reducible refine (cP _ hb).mono ?_); rintro e w3 (⟨rfl, hb3⟩ | ⟨p, rfl, hS⟩))))
    · go_wp2_with (go_at_call 9; ((with_reducible refine (cA _ (hb.trans (hb3.mono hb.size))).mono ?_); rintro e w2 ⟨rfl, hb2⟩))
      go_ret
      exact ⟨rfl, (hb.trans (hb3.mono hb.size)).trans (hb2.mono (hb.trans (hb3.mono hb.size)).size)⟩
    · have cS2 := cS _ _ p hS
      clear cS hS
      go_wp2_with (first
        | (go_at_call 19; ((with_reducible refine (cS2).mono ?_); rintro e w5 ⟨rfl, hb5, hb3⟩; have hb6 := (hb.trans (hb3.mono hb.size)).trans (hb5.mono (hb.trans (hb3.mono hb.size)).size)))
        | (go_at_call 9; ((with_reducible refine (cA _ hb6).mono ?_); rintro e w2 ⟨rfl, hb2⟩)))
      go_ret
      exact ⟨rfl, hb6.trans (hb2.mono hb6.size)⟩

end Go.Proofs.YtdegkcibadjogaaDoor
