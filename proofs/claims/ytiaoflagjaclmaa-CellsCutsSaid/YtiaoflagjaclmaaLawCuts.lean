/-
  The law of Insert, Cut, Part.
-/
import Derived.Test.YtiaoflagjaclmaaOut
import Derived.Test.YtiaoflagjaclmaaAwake
import Derived.Test.YtiaoflagjaclmaaLong
import Derived.Test.YtiaoflagjaclmaaSame
namespace Go.Proofs.Ytiaoflagjaclmaa
open Go.RowKit Go.Lib

set_option maxHeartbeats 16000000 in
theorem lawCuts_walk (v : Value) (l : Row) (u : Value) (m : Row) (f t : Int) (w : World) (hv : RowAt w v l) (hs : Sized l) (hu : RowAt w u m) (hs2 : Sized m) :
    Calls Try.prog 4 #[v, u, .int .i64 f, .int .i64 t] w fun e w' => e = .returned (.bool true) ∧ Below w.heap.size w w' := by
  have haw := fun w => awake_any w
  have cL1 := long_any v l w hv hs
  have cL2 := long_any u m w hu hs2
  by_cases b1 : longB l = true
  · rw [b1] at cL1
    clear hv hs hu hs2 cL2
    go_enter Try.func4, Try.ntmps4
    go_wp2_with (first
      | (go_at_call 13; ((with_reducible refine cL1.mono ?_); rintro e w1 ⟨rfl, rfl⟩))
      | (go_at_call 9; ((with_reducible refine (haw _).mono ?_); rintro e w1 ⟨rfl, hb1⟩)))
    go_ret
    exact ⟨rfl, hb1⟩
  by_cases b2 : longB m = true
  · rw [b2] at cL2
    rw [show longB l = false by simpa using b1] at cL1
    clear hv hs hu hs2
    go_enter Try.func4, Try.ntmps4
    go_wp2_with (first
      | (go_at_call 13; ((with_reducible refine cL1.mono ?_); rintro e w1 ⟨rfl, rfl⟩))
      | (go_at_call 13; ((with_reducible refine cL2.mono ?_); rintro e w1 ⟨rfl, rfl⟩))
      | (go_at_call 9; ((with_reducible refine (haw _).mono ?_); rintro e w1 ⟨rfl, hb1⟩)))
    go_ret
    exact ⟨rfl, hb1⟩
  have b1' : longB l = false := by simpa using b1
  have b2' : longB m = false := by simpa using b2
  rw [b1'] at cL1
  rw [b2'] at cL2
  have n1 := longB_false b1'
  have n2 := longB_false b2'
  have cO1 := rown_any v l w hv (by omega)
  have cO2 := fun w h => rown_any u m w h (by omega)
  have cI := fun w h1 h2 => insert_out v u l m f w h1 h2 n1 n2
  have cJ := fun v1 v2 w h1 h2 => rinsert_out v1 v2 l m f w h1 h2 n1 n2
  have cC := fun w h1 => cut_out v l f t w h1 n1
  have cD := fun v1 w h1 => rcut_out v1 l f t w h1 n1
  have cP := fun w h1 => part_out v l f t w h1 n1
  have cQ := fun v1 w h1 => rpart_out v1 l f t w h1 n1
  have z1 := insO_len l m f n1 n2
  have z2 := cutO_len l f t n1
  have z3 := partO_len l f t n1
  obtain ⟨⟨RI, EI⟩, hI⟩ : ∃ X, insO l m f = X := ⟨_, rfl⟩
  obtain ⟨⟨RC, EC⟩, hC⟩ : ∃ X, cutO l f t = X := ⟨_, rfl⟩
  obtain ⟨⟨RP, EP⟩, hP⟩ : ∃ X, partO l f t = X := ⟨_, rfl⟩
  rw [hI] at cI cJ z1
  rw [hC] at cC cD z2
  rw [hP] at cP cQ z3
  dsimp only at cI cJ z1 cC cD z2 cP cQ z3
  have sI : ∀ v1 v2 w, RowAt w v1 RI → RowAt w v2 RI → Calls Try.prog 10 #[v1, v2] w fun e w' => e = .returned (.bool true) ∧ Below w.heap.size w w' := fun v1 v2 w h1 h2 => by
    have h := rsame_any v1 v2 RI RI w h1 h2 (by omega)
    rwa [show sameR RI RI = true from decide_eq_true rfl] at h
  have sC : ∀ v1 v2 w, RowAt w v1 RC → RowAt w v2 RC → Calls Try.prog 10 #[v1, v2] w fun e w' => e = .returned (.bool true) ∧ Below w.heap.size w w' := fun v1 v2 w h1 h2 => by
    have h := rsame_any v1 v2 RC RC w h1 h2 (by omega)
    rwa [show sameR RC RC = true from decide_eq_true rfl] at h
  have sP : ∀ v1 v2 w, RowAt w v1 RP → RowAt w v2 RP → Calls Try.prog 10 #[v1, v2] w fun e w' => e = .returned (.bool true) ∧ Below w.heap.size w w' := fun v1 v2 w h1 h2 => by
    have h := rsame_any v1 v2 RP RP w h1 h2 (by omega)
    rwa [show sameR RP RP = true from decide_eq_true rfl] at h
  have sL : ∀ v2 w, RowAt w v l → RowAt w v2 l → Calls Try.prog 10 #[v, v2] w fun e w' => e = .returned (.bool true) ∧ Below w.heap.size w w' := fun v2 w h1 h2 => by
    have h := rsame_any v v2 l l w h1 h2 (by omega)
    rwa [show sameR l l = true from decide_eq_true rfl] at h
  have sM : ∀ v2 w, RowAt w u m → RowAt w v2 m → Calls Try.prog 10 #[u, v2] w fun e w' => e = .returned (.bool true) ∧ Below w.heap.size w w' := fun v2 w h1 h2 => by
    have h := rsame_any u v2 m m w h1 h2 (by omega)
    rwa [show sameR m m = true from decide_eq_true rfl] at h
  have sp := spoil_any
  unfold OwnPost at cO1 cO2
  unfold ErrPost at cI cJ cC cD cP cQ
  have e1 : (EI != EI) = false := by simp
  have e2 : (EC != EC) = false := by simp
  have e3 : (EP != EP) = false := by simp
  have V := Lib.hid hv
  have U := Lib.hid hu
  clear hv hs hu hs2 b1 b2 b1' b2' hI hC hP n1 n2
  go_enter Try.func4, Try.ntmps4
  go_wp2_with (first
    | (go_at_call 13; ((with_reducible refine cL1.mono ?_); rintro e w1 ⟨rfl, rfl⟩))
    | (go_at_call 13; ((with_reducible refine cL2.mono ?_); rintro e w1 ⟨rfl, rfl⟩))
    | (go_at_call 14; ((with_reducible refine cO1.mono ?_); rintro e w1 ⟨v1, rfl, own1, hb⟩; have W1 := Lib.hid (rowAt_of_own own1); clear own1; replace V := Lib.hid (V.out.below hb); replace U := Lib.hid (U.out.below hb)))
    | (go_at_call 14; ((with_reducible refine (cO2 _ U.out).mono ?_); rintro e w2 ⟨v2, rfl, own2, hb2⟩; have W2 := Lib.hid (rowAt_of_own own2); clear own2; replace V := Lib.hid (V.out.below hb2); replace U := Lib.hid (U.out.below hb2); replace W1 := Lib.hid (W1.out.below hb2); replace hb := hb.trans (hb2.mono hb.size); have hr := Below.refl w2.heap.size w2))
    | (go_at_call 15; ((with_reducible refine (cI _ (V.out.below hr) (U.out.below hr)).mono ?_); rintro e w3 ⟨v3, rfl, own3, hb3⟩; have g3 := hb3.size; have A3 := Lib.hid own3; have L3 := Lib.hid (show ∀ j, v3.ownBlock = some j → j < w3.heap.size from fun j hj => (own3.lt j hj).2); clear own3; replace hr := hr.trans (hb3.mono hr.size)))
    | (go_at_call 16; ((with_reducible refine (cJ _ _ _ (W1.out.below hr) (W2.out.below hr)).mono ?_); rintro e w4 ⟨v4, rfl, own4, hb4⟩; have B4 := Lib.hid (rowAt_of_own own4); clear own4; replace A3 := Lib.hid (ownsRow_below A3.out hb4); replace hr := hr.trans (hb4.mono hr.size); have g4 := hb4.size))
    | (go_at_call 17; ((with_reducible refine (cC _ (V.out.below hr)).mono ?_); rintro e w5 ⟨v5, rfl, own5, hb5⟩; have g5 := hb5.size; have A5 := Lib.hid own5; have L5 := Lib.hid (show ∀ j, v5.ownBlock = some j → j < w5.heap.size from fun j hj => (own5.lt j hj).2); clear own5; replace A3 := Lib.hid (ownsRow_below A3.out hb5); replace B4 := Lib.hid (B4.out.below hb5); replace hr := hr.trans (hb5.mono hr.size)))
    | (go_at_call 18; ((with_reducible refine (cD _ _ (W1.out.below hr)).mono ?_); rintro e w6 ⟨v6, rfl, own6, hb6⟩; have B6 := Lib.hid (rowAt_of_own own6); clear own6; replace A3 := Lib.hid (ownsRow_below A3.out hb6); replace A5 := Lib.hid (ownsRow_below A5.out hb6); replace B4 := Lib.hid (B4.out.below hb6); replace hr := hr.trans (hb6.mono hr.size); have g6 := hb6.size))
    | (go_at_call 19; ((with_reducible refine (cP _ (V.out.below hr)).mono ?_); rintro e w7 ⟨v7, rfl, own7, hb7⟩; have A7 := Lib.hid own7; clear own7; replace A3 := Lib.hid (ownsRow_below A3.out hb7); replace A5 := Lib.hid (ownsRow_below A5.out hb7); replace B4 := Lib.hid (B4.out.below hb7); replace B6 := Lib.hid (B6.out.below hb7); replace hr := hr.trans (hb7.mono hr.size)))
    | (go_at_call 20; ((with_reducible refine (cQ _ _ (W1.out.below hr)).mono ?_); rintro e w8 ⟨v8, rfl, own8, hb8⟩; have B8 := Lib.hid (rowAt_of_own own8); clear own8; replace A3 := Lib.hid (ownsRow_below A3.out hb8); replace A5 := Lib.hid (ownsRow_below A5.out hb8); replace A7 := Lib.hid (ownsRow_below A7.out hb8); replace B4 := Lib.hid (B4.out.below hb8); replace B6 := Lib.hid (B6.out.below hb8); replace hr := hr.trans (hb8.mono hr.size)))
    | (go_at_call 10; ((with_reducible refine (sI v3 v4 _ (rowAt_of_own A3.out) B4.out).mono ?_); rintro e w9 ⟨rfl, hb9⟩; replace A3 := Lib.hid (ownsRow_below A3.out hb9); replace A5 := Lib.hid (ownsRow_below A5.out hb9); replace A7 := Lib.hid (ownsRow_below A7.out hb9); replace B6 := Lib.hid (B6.out.below hb9); replace B8 := Lib.hid (B8.out.below hb9); replace hr := hr.trans (hb9.mono hr.size)))
    | (go_at_call 10; ((with_reducible refine (sC v5 v6 _ (rowAt_of_own A5.out) B6.out).mono ?_); rintro e w10 ⟨rfl, hb10⟩; replace A3 := Lib.hid (ownsRow_below A3.out hb10); replace A5 := Lib.hid (ownsRow_below A5.out hb10); replace A7 := Lib.hid (ownsRow_below A7.out hb10); replace B8 := Lib.hid (B8.out.below hb10); replace hr := hr.trans (hb10.mono hr.size)))
    | (go_at_call 10; ((with_reducible refine (sP v7 v8 _ (rowAt_of_own A7.out) B8.out).mono ?_); rintro e w11 ⟨rfl, hb11⟩; replace A3 := Lib.hid (ownsRow_below A3.out hb11); replace A5 := Lib.hid (ownsRow_below A5.out hb11); replace A7 := Lib.hid (ownsRow_below A7.out hb11); replace hr := hr.trans (hb11.mono hr.size)))
    | (go_at_call 21; ((with_reducible refine (sp v3 _ _ _ _ A3.out).mono ?_); rintro e w12 ⟨⟨r, rfl⟩, s12⟩; replace A5 := Lib.hid (own_other A5.out (fun k h1 h2 => s12.block k h2 (fun e => by have := L3.out k e.symm; omega))); replace A7 := Lib.hid (own_other A7.out (fun k h1 h2 => s12.block k h2 (fun e => by have := L3.out k e.symm; omega))); replace hr := hr.grown s12 hr.size (fun j hj => (A3.out.lt j hj).1)))
    | (go_at_call 21; ((with_reducible refine (sp v5 _ _ _ _ A5.out).mono ?_); rintro e w13 ⟨⟨r, rfl⟩, s13⟩; replace A7 := Lib.hid (own_other A7.out (fun k h1 h2 => s13.block k h2 (fun e => by have := L5.out k e.symm; omega))); replace hr := hr.grown s13 hr.size (fun j hj => by have := (A5.out.lt j hj).1; omega)))
    | (go_at_call 21; ((with_reducible refine (sp v7 _ _ _ _ A7.out).mono ?_); rintro e w14 ⟨⟨r, rfl⟩, s14⟩; replace hr := hr.grown s14 hr.size (fun j hj => by have := (A7.out.lt j hj).1; omega)))
    | (go_at_call 10; ((with_reducible refine (sL v1 _ (V.out.below hr) (W1.out.below hr)).mono ?_); rintro e w15 ⟨rfl, hb15⟩; replace hr := hr.trans (hb15.mono hr.size)))
    | (go_at_call 10; ((with_reducible refine (sM v2 _ (U.out.below hr) (W2.out.below hr)).mono ?_); rintro e w16 ⟨rfl, hb16⟩; replace hr := hr.trans (hb16.mono hr.size)))
    | (go_at_call 9; ((with_reducible refine (haw _).mono ?_); rintro e w17 ⟨rfl, hb17⟩; replace hr := hr.trans (hb17.mono hr.size))))
  go_ret
  exact ⟨rfl, hb.trans (hr.mono hb.size)⟩

end Go.Proofs.Ytiaoflagjaclmaa
