/-
  The law of Set, Link, All, Some.
-/
import Derived.Test.YtiaoflagjaclmaaDoorAwake
import Derived.Test.YtiaoflagjaclmaaDoorLong
import Derived.Test.YtiaoflagjaclmaaDoorSame
import Derived.Test.YtiaoflagjaclmaaDoorSetOut
namespace Go.Proofs.YtiaoflagjaclmaaDoor
open Go.RowKit Go.Lib

set_option maxHeartbeats 16000000 in
set_option maxRecDepth 20000 in
theorem lawSets_walk (v : Value) (l : Row) (f t s c : Int) (h : ByteArray) (w : World) (hE : Tg.Env w) (hv : RowAt w v l) (hs : Sized l) (_hz : h.size ≤ 140737488355328) :
    Calls Tryd.prog 4 #[v, .int .i64 f, .int .i64 t, .int .i64 s, .int .i64 c, .string h] w fun e w' => e = .returned (.bool true) ∧ Below w.heap.size w w' := by
  have haw := fun w => awake_any w
  have cL1 := long_any v l w hv hs
  by_cases b1 : longB l = true
  · rw [b1] at cL1
    clear hv hs hE
    go_enter Tryd.func4, Tryd.ntmps4
    go_wp2_with (first
      | (go_at_call 6; ((with_reducible refine cL1.mono ?_); rintro e w1 ⟨rfl, rfl⟩))
      | (go_at_call 7; ((with_reducible refine (haw _).mono ?_); rintro e w1 ⟨rfl, hb1⟩)))
    go_ret
    exact ⟨rfl, hb1⟩
  have b1' : longB l = false := by simpa using b1
  rw [b1'] at cL1
  have n1 := longB_false b1'
  by_cases hh : 1000 < h.size
  · have hhI : (1000 : Int) < (h.size : Int) := by omega
    clear hv hs hE b1 b1'
    go_enter Tryd.func4, Tryd.ntmps4
    go_wp2_with (first
      | (go_at_call 6; ((with_reducible refine cL1.mono ?_); rintro e w1 ⟨rfl, rfl⟩))
      | (go_at_call 7; ((with_reducible refine (haw _).mono ?_); rintro e w1 ⟨rfl, hb1⟩)))
    go_ret
    exact ⟨rfl, hb1⟩
  have hhI : ¬ (1000 : Int) < (h.size : Int) := by omega
  have cO := rown_any v l w hv (by omega)
  have cI := fun w h1 => set_out v l f t s c w h1 n1
  have cJ := fun v1 w h1 => rset_out v1 l f t s c w h1 n1
  have cC := fun w h1 hE => link_out v l f t h w h1 n1 (by omega) hE
  have cD := fun v1 w h1 => rlinks_out v1 l f t h w h1 n1 (by omega)
  have cA := fun w h1 => call_any v l f t s w h1 (by omega)
  have cB := fun v1 w h1 => rall_any v1 l f t s w h1 (by omega)
  have cS := fun w h1 => csome_any v l f t s w h1 (by omega)
  have cT := fun v1 w h1 => rsome_any v1 l f t s w h1 (by omega)
  have z1 := setO_len l f t s c n1
  have z2 := linkO_len l f t h n1
  obtain ⟨⟨RI, EI⟩, hI⟩ : ∃ X, setO l f t s c = X := ⟨_, rfl⟩
  obtain ⟨⟨RC, EC⟩, hC⟩ : ∃ X, linkO l f t h = X := ⟨_, rfl⟩
  obtain ⟨BA, hBA⟩ : ∃ X, allO l f t s = X := ⟨_, rfl⟩
  obtain ⟨BS, hBS⟩ : ∃ X, someO l f t s = X := ⟨_, rfl⟩
  rw [hI] at cI cJ z1
  rw [hC] at cC cD z2
  rw [hBA] at cA cB
  rw [hBS] at cS cT
  dsimp only at cI cJ z1 cC cD z2
  have sI : ∀ v1 v2 w, RowAt w v1 RI → RowAt w v2 RI → Calls Tryd.prog 13 #[v1, v2] w fun e w' => e = .returned (.bool true) ∧ Below w.heap.size w w' := fun v1 v2 w h1 h2 => by
    have h := rsame_any v1 v2 RI RI w h1 h2 (by omega)
    rwa [show sameR RI RI = true from decide_eq_true rfl] at h
  have sC : ∀ v1 v2 w, RowAt w v1 RC → RowAt w v2 RC → Calls Tryd.prog 13 #[v1, v2] w fun e w' => e = .returned (.bool true) ∧ Below w.heap.size w w' := fun v1 v2 w h1 h2 => by
    have h := rsame_any v1 v2 RC RC w h1 h2 (by omega)
    rwa [show sameR RC RC = true from decide_eq_true rfl] at h
  have sL : ∀ v2 w, RowAt w v l → RowAt w v2 l → Calls Tryd.prog 13 #[v, v2] w fun e w' => e = .returned (.bool true) ∧ Below w.heap.size w w' := fun v2 w h1 h2 => by
    have h := rsame_any v v2 l l w h1 h2 (by omega)
    rwa [show sameR l l = true from decide_eq_true rfl] at h
  have sp := spoil_any
  unfold OwnPost at cO
  unfold ErrPost at cI cJ cC cD
  have e1 : (EI != EI) = false := by simp
  have e2 : (EC != EC) = false := by simp
  have V := Lib.hid hv
  have HE := Lib.hid hE
  clear hv hs b1 b1' hI hC n1 hE hBA hBS hh _hz
  go_enter Tryd.func4, Tryd.ntmps4
  go_wp2_with (first
    | (go_at_call 6; ((with_reducible refine cL1.mono ?_); rintro e w1 ⟨rfl, rfl⟩))
    | (go_at_call 14; ((with_reducible refine cO.mono ?_); rintro e w2 ⟨v1, rfl, own1, hb⟩; have W1 := Lib.hid (rowAt_of_own own1); clear own1; replace V := Lib.hid (V.out.below hb); replace HE := Lib.hid (HE.out.below hb); have hr := Below.refl w2.heap.size w2))
    | (go_at_call 15; ((with_reducible refine (cI _ (V.out.below hr)).mono ?_); rintro e w3 ⟨v3, rfl, own3, hb3⟩; have g3 := hb3.size; have A3 := Lib.hid own3; have L3 := Lib.hid (show ∀ j, v3.ownBlock = some j → j < w3.heap.size from fun j hj => (own3.lt j hj).2); clear own3; replace hr := hr.trans (hb3.mono hr.size)))
    | (go_at_call 16; ((with_reducible refine (cJ _ _ (W1.out.below hr)).mono ?_); rintro e w4 ⟨v4, rfl, own4, hb4⟩; have B4 := Lib.hid (rowAt_of_own own4); clear own4; replace A3 := Lib.hid (ownsRow_below A3.out hb4); replace hr := hr.trans (hb4.mono hr.size); have g4 := hb4.size))
    | (go_at_call 17; ((with_reducible refine (cC _ (V.out.below hr) (HE.out.below hr)).mono ?_); rintro e w5 ⟨v5, rfl, own5, hb5⟩; have g5 := hb5.size; have A5 := Lib.hid own5; clear own5; replace A3 := Lib.hid (ownsRow_below A3.out hb5); replace B4 := Lib.hid (B4.out.below hb5); replace hr := hr.trans (hb5.mono hr.size)))
    | (go_at_call 18; ((with_reducible refine (cD _ _ (W1.out.below hr)).mono ?_); rintro e w6 ⟨v6, rfl, own6, hb6⟩; have B6 := Lib.hid (rowAt_of_own own6); clear own6; replace A3 := Lib.hid (ownsRow_below A3.out hb6); replace A5 := Lib.hid (ownsRow_below A5.out hb6); replace B4 := Lib.hid (B4.out.below hb6); replace hr := hr.trans (hb6.mono hr.size)))
    | (go_at_call 13; ((with_reducible refine (sI v3 v4 _ (rowAt_of_own A3.out) B4.out).mono ?_); rintro e w9 ⟨rfl, hb9⟩; replace A3 := Lib.hid (ownsRow_below A3.out hb9); replace A5 := Lib.hid (ownsRow_below A5.out hb9); replace B6 := Lib.hid (B6.out.below hb9); replace hr := hr.trans (hb9.mono hr.size)))
    | (go_at_call 13; ((with_reducible refine (sC v5 v6 _ (rowAt_of_own A5.out) B6.out).mono ?_); rintro e w10 ⟨rfl, hb10⟩; replace A3 := Lib.hid (ownsRow_below A3.out hb10); replace A5 := Lib.hid (ownsRow_below A5.out hb10); replace hr := hr.trans (hb10.mono hr.size)))
    | (go_at_call 19; ((with_reducible refine (sp v3 _ _ _ _ A3.out).mono ?_); rintro e w12 ⟨⟨r, rfl⟩, s12⟩; replace A5 := Lib.hid (own_other A5.out (fun k h1 h2 => s12.block k h2 (fun e => by have := L3.out k e.symm; omega))); replace hr := hr.grown s12 hr.size (fun j hj => (A3.out.lt j hj).1)))
    | (go_at_call 19; ((with_reducible refine (sp v5 _ _ _ _ A5.out).mono ?_); rintro e w13 ⟨⟨r, rfl⟩, s13⟩; replace hr := hr.grown s13 hr.size (fun j hj => by have := (A5.out.lt j hj).1; omega)))
    | (go_at_call 20; ((with_reducible refine (cA _ (V.out.below hr)).mono ?_); rintro e w14 ⟨rfl, hb14⟩; replace hr := hr.trans (hb14.mono hr.size)))
    | (go_at_call 21; ((with_reducible refine (cB _ _ (W1.out.below hr)).mono ?_); rintro e w15 ⟨rfl, rfl⟩))
    | (go_at_call 22; ((with_reducible refine (cS _ (V.out.below hr)).mono ?_); rintro e w16 ⟨rfl, hb16⟩; replace hr := hr.trans (hb16.mono hr.size)))
    | (go_at_call 23; ((with_reducible refine (cT _ _ (W1.out.below hr)).mono ?_); rintro e w17 ⟨rfl, rfl⟩))
    | (go_at_call 13; ((with_reducible refine (sL v1 _ (V.out.below hr) (W1.out.below hr)).mono ?_); rintro e w18 ⟨rfl, hb18⟩; replace hr := hr.trans (hb18.mono hr.size)))
    | (go_at_call 7; ((with_reducible refine (haw _).mono ?_); rintro e w19 ⟨rfl, hb19⟩; replace hr := hr.trans (hb19.mono hr.size))))
  go_ret
  exact ⟨rfl, hb.trans (hr.mono hb.size)⟩

end Go.Proofs.YtiaoflagjaclmaaDoor
