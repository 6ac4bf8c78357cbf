/-
  The walk of the statement CssOver.
-/
import Derived.Test.YthoinlapopongaaDoorLawLater
namespace Go.Proofs.YthoinlapopongaaDoor
open Go.RowKit Go.Lib

set_option maxHeartbeats 4000000 in
theorem lawOver_long (s t : ByteArray) (z : Int) (w : World) (hE : Env w) (hs : s.size ≤ 140737488355328) (ht : t.size ≤ 140737488355328) (hl : 5000 < s.size ∨ 5000 < t.size) : Calls Tryd.prog 7 #[.string s, .string t, .int .i64 z] w fun e w' => e = .returned (.bool true) ∧ Below w.heap.size w w' := by
  have c4 := awake_any
  have hb := Below.refl w.heap.size w
  by_cases h1 : 5000 < s.size
  · clear hl
    replace h1 : (5000 : Int) < (s.size : Int) := by omega
    go_enter Tryd.func7, Tryd.ntmps7
    go_wp2_with (go_at_call 8; ((with_reducible refine (c4 _ (hE.below hb)).mono ?_); rintro e wn ⟨rfl, hbn⟩; replace hb := hb.trans (hbn.mono hb.size)))
    go_ret
    exact ⟨rfl, hb⟩
  · have h2 : (5000 : Int) < (t.size : Int) := by omega
    replace h1 : ¬ (5000 : Int) < (s.size : Int) := by omega
    clear hl
    go_enter Tryd.func7, Tryd.ntmps7
    go_wp2_with (go_at_call 8; ((with_reducible refine (c4 _ (hE.below hb)).mono ?_); rintro e wn ⟨rfl, hbn⟩; replace hb := hb.trans (hbn.mono hb.size)))
    go_ret
    exact ⟨rfl, hb⟩

theorem rest_is (z a b c d : B64) : overS z (overS a c d) (overS b d c) &&& ~~~(a ||| b ||| c ||| d) = z &&& ~~~(a ||| b ||| c ||| d) := by
  apply BitVec.eq_of_getLsbD_eq
  intro i hi
  unfold overS
  simp only [BitVec.getLsbD_or, BitVec.getLsbD_and, BitVec.getLsbD_not, hi, decide_true, Bool.true_and]
  generalize z.getLsbD i = x
  generalize a.getLsbD i = p
  generalize b.getLsbD i = q
  generalize c.getLsbD i = r
  generalize d.getLsbD i = s
  revert x p q r s
  decide

set_option maxHeartbeats 8000000 in
theorem lawOver_short (s t : ByteArray) (z : Int) (w : World) (hE : Env w) (hs : s.size ≤ 5000) (ht : t.size ≤ 5000) : Calls Tryd.prog 7 #[.string s, .string t, .int .i64 z] w fun e w' => e = .returned (.bool true) ∧ Below w.heap.size w w' := by
  have c1 := fun w h => parse_any s w (by omega) h
  have c2 := fun w h => parse_any t w (by omega) h
  have c3 := fun w h => parse_any (s ++ ⟨#[59]⟩ ++ t) w (two_size s t hs ht) h
  have c4 := awake_any
  rw [parse_two] at c3
  dsimp only at c3
  obtain ⟨Z, hZ⟩ : ∃ Z, BitVec.ofInt 64 z = Z := ⟨_, rfl⟩
  have o1 := over_any z (overS (parseS s).1 (parseS t).1 (parseS t).2).toInt (overS (parseS s).2 (parseS t).2 (parseS t).1).toInt
  have o2 := over_any z (parseS s).1.toInt (parseS s).2.toInt
  have o3 := over_any (overS Z (parseS s).1 (parseS s).2).toInt (parseS t).1.toInt (parseS t).2.toInt
  have q := rest_is Z (parseS s).1 (parseS s).2 (parseS t).1 (parseS t).2
  have q' := congrArg BitVec.toInt q
  simp only [ofInt_bits, hZ, over_over] at o1 o2 o3
  rw [← bits_less, ← bits_less, ← bits_bit, ← bits_bit, ← bits_bit] at q'
  have ez : bits .andNot .i64 Z.toInt (bits .or .i64 (bits .or .i64 (bits .or .i64 (parseS s).1.toInt (parseS s).2.toInt) (parseS t).1.toInt) (parseS t).2.toInt) = bits .andNot .i64 z (bits .or .i64 (bits .or .i64 (bits .or .i64 (parseS s).1.toInt (parseS s).2.toInt) (parseS t).1.toInt) (parseS t).2.toInt) := by
    rw [bits_andNot, bits_andNot, ofInt_bits, hZ]
  rw [ez] at q'
  clear q ez hZ
  generalize (overS (parseS s).1 (parseS t).1 (parseS t).2).toInt = X at *
  generalize (overS (parseS s).2 (parseS t).2 (parseS t).1).toInt = Y at *
  generalize (overS Z (overS (parseS s).1 (parseS t).1 (parseS t).2) (overS (parseS s).2 (parseS t).2 (parseS t).1)).toInt = O at *
  generalize (overS Z (parseS s).1 (parseS s).2).toInt = O2 at *
  generalize (parseS s).1.toInt = A at *
  generalize (parseS s).2.toInt = B at *
  generalize (parseS t).1.toInt = C at *
  generalize (parseS t).2.toInt = D at *
  have hb := Below.refl w.heap.size w
  have h1 : ¬ (5000 : Int) < (s.size : Int) := by omega
  have h2 : ¬ (5000 : Int) < (t.size : Int) := by omega
  go_enter Tryd.func7, Tryd.ntmps7
  go_wp2_with (first
    | (go_at_call 9; first
        | ((with_reducible refine (c1 _ (hE.below hb)).mono ?_); rintro e wn ⟨rfl, hbn⟩; replace hb := hb.trans (hbn.mono hb.size))
        | ((with_reducible refine (c2 _ (hE.below hb)).mono ?_); rintro e wn ⟨rfl, hbn⟩; replace hb := hb.trans (hbn.mono hb.size))
        | ((with_reducible refine (c3 _ (hE.below hb)).mono ?_); rintro e wn ⟨rfl, hbn⟩; replace hb := hb.trans (hbn.mono hb.size)))
    | (go_at_call 13; first
        | ((with_reducible refine (o1 _).mono ?_); rintro e wn ⟨rfl, rfl⟩)
        | ((with_reducible refine (o2 _).mono ?_); rintro e wn ⟨rfl, rfl⟩)
        | ((with_reducible refine (o3 _).mono ?_); rintro e wn ⟨rfl, rfl⟩))
    | (go_at_call 8; ((with_reducible refine (c4 _ (hE.below hb)).mono ?_); rintro e wn ⟨rfl, hbn⟩; replace hb := hb.trans (hbn.mono hb.size))))
  go_ret
  exact ⟨rfl, hb⟩

theorem lawOver_walk (s t : ByteArray) (z : Int) (w : World) (hE : Env w) (hs : s.size ≤ 140737488355328) (ht : t.size ≤ 140737488355328) : Calls Tryd.prog 7 #[.string s, .string t, .int .i64 z] w fun e w' => e = .returned (.bool true) ∧ Below w.heap.size w w' := by
  by_cases h : s.size ≤ 5000 ∧ t.size ≤ 5000
  · exact lawOver_short s t z w hE h.1 h.2
  · exact lawOver_long s t z w hE hs ht (by omega)

end Go.Proofs.YthoinlapopongaaDoor
