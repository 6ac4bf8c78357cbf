/-
  The law of Of.
-/
import Derived.Test.YtiaoflagjaclmaaAwake
import Derived.Test.YtiaoflagjaclmaaDocOf
import Derived.Test.YtiaoflagjaclmaaSame
namespace Go.Proofs.Ytiaoflagjaclmaa
open Go.RowKit Go.Lib

set_option maxHeartbeats 8000000 in
theorem lawOf_walk (s : ByteArray) (b : Int) (h : ByteArray) (w : World) (z1 : s.size ≤ 140737488355328) (z2 : h.size ≤ 140737488355328) :
    Calls Try.prog 3 #[.string s, .int .i64 b, .string h] w fun e w' => e = .returned (.bool true) ∧ Below w.heap.size w w' := by
  have haw := fun w => awake_any w
  by_cases h1 : 10000 < s.size
  · have g1 : (10000 : Int) < (s.size : Int) := by omega
    go_enter Try.func3, Try.ntmps3
    go_wp2_with (go_at_call 9; ((with_reducible refine (haw _).mono ?_); rintro e w1 ⟨rfl, hb1⟩))
    go_ret
    exact ⟨rfl, hb1⟩
  · have g1 : ¬ (10000 : Int) < (s.size : Int) := by omega
    by_cases h2 : 1000 < h.size
    · have g2 : (1000 : Int) < (h.size : Int) := by omega
      go_enter Try.func3, Try.ntmps3
      go_wp2_with (go_at_call 9; ((with_reducible refine (haw _).mono ?_); rintro e w1 ⟨rfl, hb1⟩))
      go_ret
      exact ⟨rfl, hb1⟩
    · have g2 : ¬ (1000 : Int) < (h.size : Int) := by omega
      have c1 := fun w => of_any s b h w (by omega)
      have c2 := fun w => rof_any s b h w (by omega)
      have hln := cleanD_length s.data.toList
      rw [← size_eq] at hln
      have hlr := ofR_length (cleanD s.data.toList) b h
      obtain ⟨R, hR⟩ : ∃ R, ofR (cleanD s.data.toList) b h = R := ⟨_, rfl⟩
      rw [hR] at c1 c2 hlr
      have hRl : R.length ≤ 100000 := by omega
      have eS : sameR R R = true := decide_eq_true rfl
      have c3 := fun v1 v2 w h1 h2 => rsame_any v1 v2 R R w h1 h2 hRl
      rw [eS] at c3
      unfold OwnPost at c1 c2
      clear hR hlr hln eS
      go_enter Try.func3, Try.ntmps3
      go_wp2_with (first
        | (go_at_call 11; ((with_reducible refine (c1 _).mono ?_); rintro e w1 ⟨v1, rfl, own1, hb⟩; have R1 := Lib.hid (rowAt_of_own own1); clear own1))
        | (go_at_call 12; ((with_reducible refine (c2 _).mono ?_); rintro e w2 ⟨v2, rfl, own2, hb2⟩; have R2 := Lib.hid (rowAt_of_own own2); clear own2; replace R1 := Lib.hid (R1.out.below hb2); replace hb := hb.trans (hb2.mono hb.size)))
        | (go_at_call 10; ((with_reducible refine (c3 _ _ _ R1.out R2.out).mono ?_); rintro e w3 ⟨rfl, hb3⟩; replace hb := hb.trans (hb3.mono hb.size)))
        | (go_at_call 9; ((with_reducible refine (haw _).mono ?_); rintro e w4 ⟨rfl, hb4⟩; replace hb := hb.trans (hb4.mono hb.size))))
      go_ret
      exact ⟨rfl, hb⟩

end Go.Proofs.Ytiaoflagjaclmaa
