/-
  The law of May, Text, Same.
-/
import Derived.Test.YtiaoflagjaclmaaDoorAwake
import Derived.Test.YtiaoflagjaclmaaDoorSame
import Derived.Test.YtiaoflagjaclmaaDoorBit
import Derived.Test.YtiaoflagjaclmaaDoorDocSets
namespace Go.Proofs.YtiaoflagjaclmaaDoor
open Go.RowKit Go.Lib

theorem env_below {w w' : World} (h : Hid (Tg.Env w)) (hb : Below w.heap.size w w') : Hid (Tg.Env w') := Lib.hid (h.out.below hb)

set_option maxHeartbeats 16000000 in
set_option maxRecDepth 20000 in
theorem lawMay_walk (v : Value) (l : Row) (u : Value) (m : Row) (w : World) (hE : Tg.Env w) (hv : RowAt w v l) (hs : Sized l) (hu : RowAt w u m) (hs2 : Sized m) :
    Calls Tryd.prog 3 #[v, u] w fun e w' => e = .returned (.bool true) ∧ Below w.heap.size w w' := by
  have haw := fun w => awake_any w
  have cL1 := long_any v l w hv hs
  have cL2 := long_any u m w hu hs2
  by_cases b1 : longB l = true
  · rw [b1] at cL1
    clear hv hs hu hs2 cL2 hE
    go_enter Tryd.func3, Tryd.ntmps3
    go_wp2_with (first
      | (go_at_call 6; ((with_reducible refine cL1.mono ?_); rintro e w1 ⟨rfl, rfl⟩))
      | (go_at_call 7; ((with_reducible refine (haw _).mono ?_); rintro e w1 ⟨rfl, hb1⟩)))
    go_ret
    exact ⟨rfl, hb1⟩
  have b1' : longB l = false := by simpa using b1
  rw [b1'] at cL1
  by_cases b2 : longB m = true
  · rw [b2] at cL2
    clear hv hs hu hs2 hE
    go_enter Tryd.func3, Tryd.ntmps3
    go_wp2_with (first
      | (go_at_call 6; ((with_reducible refine cL1.mono ?_); rintro e w1 ⟨rfl, rfl⟩))
      | (go_at_call 6; ((with_reducible refine cL2.mono ?_); rintro e w1 ⟨rfl, rfl⟩))
      | (go_at_call 7; ((with_reducible refine (haw _).mono ?_); rintro e w1 ⟨rfl, hb1⟩)))
    go_ret
    exact ⟨rfl, hb1⟩
  have b2' : longB m = false := by simpa using b2
  rw [b2'] at cL2
  have n1 := longB_false b1'
  have n2 := longB_false b2'
  have hf := fair_of b1'
  have cM := mayRow_any v l w hv (by omega) hf hE
  have cN := fun w h => rmayRow_any v l w h (by omega) hf
  have cT := fun w h => text_any v l w h (by omega)
  have cU := fun w h => rtext_any v l w h (by omega)
  have cS := fun w h1 h2 => same_any v u l m w h1 h2
  have cR := fun w h1 h2 => rsame_any v u l m w h1 h2 (by omega)
  have cQ : ∀ w, RowAt w v l → Calls Tryd.prog 12 #[v, v] w fun e w' => e = .returned (.bool true) ∧ Below w.heap.size w w' := fun w h1 => by
    have h := same_any v v l l w h1 h1
    rwa [show sameR l l = true from decide_eq_true rfl] at h
  obtain ⟨M, hM⟩ : ∃ M, mayR l = M := ⟨_, rfl⟩
  obtain ⟨T, hT⟩ : ∃ T, textS (charsR l) = T := ⟨_, rfl⟩
  obtain ⟨S, hS⟩ : ∃ S, sameR l m = S := ⟨_, rfl⟩
  rw [hM] at cM cN
  rw [hT] at cT cU
  rw [hS] at cS cR
  have V := Lib.hid hv
  have U := Lib.hid hu
  clear hv hs hu hs2 b1 b2 b1' b2' hM hT hS n1 n2 hf hE
  go_enter Tryd.func3, Tryd.ntmps3
  go_wp2_with (first
    | (go_at_call 6; ((with_reducible refine cL1.mono ?_); rintro e w1 ⟨rfl, rfl⟩))
    | (go_at_call 6; ((with_reducible refine cL2.mono ?_); rintro e w1 ⟨rfl, rfl⟩))
    | (go_at_call 8; ((with_reducible refine cM.mono ?_); rintro e w1 ⟨rfl, hb⟩; replace V := Lib.hid (V.out.below hb); replace U := Lib.hid (U.out.below hb)))
    | (go_at_call 9; ((with_reducible refine (cN _ V.out).mono ?_); rintro e w2 ⟨rfl, hb2⟩; replace V := Lib.hid (V.out.below hb2); replace U := Lib.hid (U.out.below hb2); replace hb := hb.trans (hb2.mono hb.size)))
    | (go_at_call 10; ((with_reducible refine (cT _ V.out).mono ?_); rintro e w3 ⟨rfl, hb3⟩; replace V := Lib.hid (V.out.below hb3); replace U := Lib.hid (U.out.below hb3); replace hb := hb.trans (hb3.mono hb.size)))
    | (go_at_call 11; ((with_reducible refine (cU _ V.out).mono ?_); rintro e w4 ⟨rfl, hb4⟩; replace V := Lib.hid (V.out.below hb4); replace U := Lib.hid (U.out.below hb4); replace hb := hb.trans (hb4.mono hb.size)))
    | (go_at_call 12; ((with_reducible refine (cS _ V.out U.out).mono ?_); rintro e w5 ⟨rfl, hb5⟩; replace V := Lib.hid (V.out.below hb5); replace U := Lib.hid (U.out.below hb5); replace hb := hb.trans (hb5.mono hb.size)))
    | (go_at_call 13; ((with_reducible refine (cR _ V.out U.out).mono ?_); rintro e w6 ⟨rfl, hb6⟩; replace V := Lib.hid (V.out.below hb6); replace U := Lib.hid (U.out.below hb6); replace hb := hb.trans (hb6.mono hb.size)))
    | (go_at_call 12; ((with_reducible refine (cQ _ V.out).mono ?_); rintro e w7 ⟨rfl, hb7⟩; replace hb := hb.trans (hb7.mono hb.size)))
    | (go_at_call 7; ((with_reducible refine (haw _).mono ?_); rintro e w8 ⟨rfl, hb8⟩; replace hb := hb.trans (hb8.mono hb.size))))
  go_ret
  exact ⟨rfl, hb⟩

end Go.Proofs.YtiaoflagjaclmaaDoor
